/-
  What Parse does. Conditions: those that each theorem names.
-/
import Derived.Test.YtfaledeidjmooaaGreatFrom
import Derived.Test.YtfaledeidjmooaaGreatOne
namespace Go.Proofs.YtfaledeidjmooaaGreat
open Go.RowKit

/-- the error of a text -/
def parseK (l : List Nat) : Int := if l.length ≤ 20000 then (if isNum l = true then (if (Nl.limbs (decL l)).length ≤ 1024 then 0 else 2) else 6) else 2

set_option maxHeartbeats 1000000 in
theorem parse1_does (bs : ByteArray) (K : Nat) (w : World) (hK : w.cell? ⟨K, 0, none⟩ = some (.string bs)) (hl : K < w.heap.size) (hs : bs.size ≤ 9223372036854775807) :
    NatDoes 86 #[.pointer (some ⟨K, 0, none⟩)] w (parseK (dl bs)) (decL (dl bs)) := by
  obtain ⟨k, hk⟩ : ∃ k : Int, k = parseK (dl bs) := ⟨_, rfl⟩
  rw [← hk]
  have HK := Lib.hid hk
  clear hk
  intro W hW
  have k1 := (hW.cell (p := ⟨K, 0, none⟩) hl).trans hK
  have HNN : bs.size ≤ 20000 → Calls Tryz.prog 87 #[.string bs] W fun e w' => e = .returned (.bool (isNum (dl bs))) ∧ W = w' := fun h => isNumeral_any bs W (by omega)
  clear hK hW hl
  by_cases hsz : bs.size ≤ 20000
  · have e0 : decide ((bs.size : Int) ≤ 20000) = true := decide_eq_true (by omega)
    have HN := HNN hsz
    clear HNN
    cases hn : isNum (dl bs) with
    | true =>
      rw [hn] at HN
      have HN' := Lib.hid HN
      have hdig : (dl bs).all isDig = true := by rw [isNum, Bool.and_eq_true] at hn; exact hn.1
      have HF := Lib.hid (fromDigits_any bs W hsz hdig)
      have hk := HK.out
      rw [parseK, if_pos (by rw [dl_length]; exact hsz), if_pos hn] at hk
      have HK' := Lib.hid hk
      clear HN hn hdig hk HK
      go_enter Tryz.func86, Tryz.ntmps86
      go_wp2_with (first
        | (go_at_call_of 61 (Value.bool true); refine (must_yes _ _).mono ?_; rintro e w' ⟨rfl, rfl⟩)
        | (go_at_call 87; refine HN'.out.mono ?_; rintro e w' ⟨rfl, rfl⟩))
      go_at_call 88
      refine HF.out.mono ?_
      rintro e w2 ⟨hb, ⟨hf, v, rfl, hv⟩ | ⟨hf, rfl⟩⟩
      · have HB := Lib.hid hb
        have HV := Lib.hid hv
        have hk := HK'.out
        rw [if_pos hf] at hk
        have HK2 := Lib.hid hk
        clear hb hv hf hk HK'
        go_wp2_with fail
        go_ret
        exact ⟨HB.out, .inl ⟨HK2.out, v, rfl, HV.out⟩⟩
      · have hk := HK'.out
        rw [if_neg (by omega)] at hk
        exact ⟨rfl, hb, .inr ⟨by rw [hk]; decide, by rw [hk]⟩⟩
    | false =>
      rw [hn] at HN
      have HN' := Lib.hid HN
      have hk := HK.out
      rw [parseK, if_pos (by rw [dl_length]; exact hsz), if_neg (by rw [hn]; decide)] at hk
      have HK' := Lib.hid hk
      clear HN hn hk HK
      go_enter Tryz.func86, Tryz.ntmps86
      go_wp2_with (first
        | (go_at_call_of 61 (Value.bool true); refine (must_yes _ _).mono ?_; rintro e w' ⟨rfl, rfl⟩)
        | (go_at_call_of 61 (Value.bool false); refine (must_no _ _).mono ?_; rintro e w' ⟨rfl, rfl⟩)
        | (go_at_call 87; refine HN'.out.mono ?_; rintro e w' ⟨rfl, rfl⟩))
      exact ⟨rfl, Below.refl _ _, .inr ⟨by rw [HK'.out]; decide, by rw [HK'.out]⟩⟩
  · have e0 : decide ((bs.size : Int) ≤ 20000) = false := decide_eq_false (by omega)
    have hk := HK.out
    rw [parseK, if_neg (by rw [dl_length]; exact hsz)] at hk
    have HK' := Lib.hid hk
    clear HNN hk HK
    go_enter Tryz.func86, Tryz.ntmps86
    go_wp2_with (first
      | (go_at_call_of 61 (Value.bool false); refine (must_no _ _).mono ?_; rintro e w' ⟨rfl, rfl⟩))
    exact ⟨rfl, Below.refl _ _, .inr ⟨by rw [HK'.out]; decide, by rw [HK'.out]⟩⟩

set_option maxHeartbeats 1000000 in
theorem parse_any (bs : ByteArray) (w : World) (hs : bs.size ≤ 9223372036854775807) :
    Calls Tryz.prog 43 #[.string bs] w fun e w' => ∃ c, c = codeOf (parseK (dl bs)) (decL (dl bs)) ∧ NatOut w w' e c (decL (dl bs)) := by
  have hmf : ∀ (fn : Fn) (first cap : Array Value) (w : World), (Instr.makeFunc fn first cap).run Tryz.prog w = .ok (.func fn first cap) w := fun _ _ _ _ => rfl
  go_enter Tryz.func43, Tryz.ntmps43
  go_wp2_with fail
  obtain ⟨W, hW⟩ : ∃ W, W = w.alloc (.cells #[.string bs] 9) := ⟨_, rfl⟩
  rw [← hW]
  have hbl : Below w.heap.size w W := by rw [hW]; exact (Below.refl _ _).alloc (Nat.le_refl _) _
  have c1 : W.cell? ⟨w.heap.size, 0, none⟩ = some (.string bs) := by rw [hW]; exact cell_of_one (heap_alloc_new _ _)
  have hsz : w.heap.size < W.heap.size := by rw [hW]; simp
  clear hW
  refine (one_any _ _ W (parseK (dl bs)) (decL (dl bs)) none 0 [] (by simp) (fun h => absurd h (by simp)) (fun i hi => absurd hi (by simp)) (fun _ => parse1_does bs w.heap.size W c1 hsz hs) (fun _ _ => by kernel_rfl)).mono ?_
  rintro e w1 ⟨c, hc, ho⟩
  have hc6 : c = codeOf (parseK (dl bs)) (decL (dl bs)) := by
    rcases hc with ⟨-, h⟩ | ⟨⟨p, hp, -⟩, -⟩
    · exact h
    · cases hp
  have ho2 := ho.mono hbl
  obtain ⟨⟨v, rfl, h2, h3⟩, hb1⟩ := ho2
  have HR := Lib.hid (And.intro h2 (And.intro h3 hb1))
  have HC := Lib.hid hc6
  clear hc h2 h3 hb1 c1 hsz hbl ho hc6
  go_wp2_with fail
  go_ret2
  exact ⟨c, HC.out, ⟨v, rfl, HR.out.1, HR.out.2.1⟩, HR.out.2.2⟩
end Go.Proofs.YtfaledeidjmooaaGreat
