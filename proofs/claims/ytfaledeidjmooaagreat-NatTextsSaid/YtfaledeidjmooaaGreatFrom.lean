/-
  What fromDigits does. Conditions: those that each theorem names.
-/
import Derived.Test.YtfaledeidjmooaaGreatExtended
namespace Go.Proofs.YtfaledeidjmooaaGreat
open Go.RowKit

/-- the number that decimal digits stand for -/
def decL (l : List Nat) : Nat := l.foldl (fun a d => a * 10 + (d - 48)) 0
theorem foldl_dec (l : List Nat) (a : Nat) : l.foldl (fun a d => a * 10 + (d - 48)) a = a * 10 ^ l.length + decL l := by
  induction l generalizing a with
  | nil => simp [decL]
  | cons d l ih =>
    have e : decL (d :: l) = (d - 48) * 10 ^ l.length + decL l := by
      rw [show decL (d :: l) = l.foldl (fun a d => a * 10 + (d - 48)) (0 * 10 + (d - 48)) from rfl, ih, Nat.zero_mul, Nat.zero_add]
    rw [List.foldl_cons, ih, e, List.length_cons, Nat.pow_succ, Nat.add_mul, Nat.mul_assoc, Nat.mul_comm 10, Nat.add_assoc]
theorem decL_append (a b : List Nat) : decL (a ++ b) = 10 ^ b.length * decL a + decL b := by
  rw [decL, List.foldl_append, foldl_dec, Nat.mul_comm]; rfl
theorem decL_snoc (a : List Nat) (d : Nat) : decL (a ++ [d]) = decL a * 10 + (d - 48) := by
  rw [decL_append]; simp [decL, Nat.mul_comm]
theorem decL_lt {l : List Nat} (h : l.all isDig = true) : decL l < 10 ^ l.length := by
  induction l with
  | nil => simp [decL]
  | cons d l ih =>
    rw [List.all_cons, Bool.and_eq_true] at h
    have h1 := ih h.2
    have h2 : d ≤ 57 := by
      have := h.1
      simp [isDig] at this
      exact this.2
    rw [decL, List.foldl_cons, foldl_dec, List.length_cons, Nat.pow_succ]
    have h3 : (0 * 10 + (d - 48)) * 10 ^ l.length ≤ 9 * 10 ^ l.length := Nat.mul_le_mul_right _ (by omega)
    omega
theorem take_snoc_getD {l : List Nat} {k : Nat} (h : k < l.length) : l.take (k + 1) = l.take k ++ [l.getD k 0] := by
  rw [List.take_add_one, Nl.getD_lt h]; simp [h]

def strSize : Value → Nat
  | .string b => b.size
  | _ => 0
/-- what fromDigits gives -/
def FromOut (w w' : World) (e : Ending) (m : Nat) : Prop :=
  Below w.heap.size w w' ∧ (((Nl.limbs m).length ≤ 1024 ∧ ∃ v, e = .returned v ∧ IsN w' v m) ∨ (1024 < (Nl.limbs m).length ∧ e = .panicked [{ v := .iface 130 (.agg #[.int .i64 2, .int .i64 0]), recovered := false }]))

theorem pow10_le {c : Nat} (h : c ≤ 9) : 10 ^ c ≤ 1000000000 := Nat.pow_le_pow_right (by decide) (show c ≤ 9 from h)

set_option maxHeartbeats 2000000 in
theorem fromDigits_any (bs : ByteArray) (w : World) (hl : bs.size ≤ 20000) (hdig : (dl bs).all isDig = true) :
    Calls Tryz.prog 88 #[.string bs] w fun e w' => FromOut w w' e (decL (dl bs)) := by
  obtain ⟨L, hL⟩ : ∃ L, L = dl bs := ⟨_, rfl⟩
  have HL := Lib.hid hL
  have HSZ := Lib.hid (show L.length = bs.size by rw [hL, dl_length])
  rw [← hL] at hdig ⊢
  have HD := Lib.hid hdig
  clear hL hdig
  go_enter Tryz.func88, Tryz.ntmps88
  go_wp2_with fail
  go_loopw [0, 3] (fun s v wr => ∃ (cur : ByteArray) (p : Nat), s = .string cur ∧ Hid (dl cur = L.drop p) ∧ Hid (cur.size + p = L.length) ∧ cur.size ≤ 20000 ∧
      Hid (wr.ownsRow w.heap.size 59 1 v (Nl.limbs (decL (L.take p))).length (vals (Nl.limbs (decL (L.take p))))) ∧ Hid ((Nl.limbs (decL (L.take p))).length ≤ 1024) ∧ Hid (Below w.heap.size w wr)) (fun s _ _ => strSize s)
  case atStart =>
    refine ⟨bs, 0, rfl, by rw [Hid, ← HL.out]; rfl, by rw [Hid, HSZ.out]; rfl, hl, ?_, by rw [Hid, List.take_zero]; simp [decL, Nl.limbs_zero], Below.refl _ _⟩
    rw [Hid, List.take_zero, show decL [] = 0 from rfl, Nl.limbs_zero]
    exact World.ownsRow_nil _ _ _ _
  case round =>
    obtain ⟨cur, p, rfl, hcur, hsize, hcl, ho, hfit, hbel⟩ := hrel
    by_cases hlt : 0 < cur.size
    · have t0 : decide (0 < cur.size) = true := decide_eq_true hlt
      obtain ⟨c, hc⟩ : ∃ c, c = (cur.size - 1) % 9 + 1 := ⟨_, rfl⟩
      have hc1 : 1 ≤ c ∧ c ≤ 9 ∧ c ≤ cur.size := by
        have h1 := Nat.mod_lt (cur.size - 1) (show 0 < 9 by decide)
        have h2 := Nat.mod_le (cur.size - 1) 9
        omega
      obtain ⟨hc2, hc3, hc4⟩ := hc1
      have hci : ((cur.size : Int) - 1) % 9 + 1 = (c : Int) := by omega
      clear hc
      have HDC := Lib.hid (show ∀ k, k < cur.size → isDig ((dl cur).getD k 0) = true by
        intro k hk
        have h1 := HD.out
        rw [List.all_eq_true] at h1
        apply h1
        have h2 : k < (dl cur).length := by rw [dl_length]; exact hk
        rw [Nl.getD_lt h2]
        have hsub : ∀ x, x ∈ dl cur → x ∈ L := fun x hx => by rw [hcur.out] at hx; exact List.mem_of_mem_drop hx
        exact hsub _ (List.getElem_mem h2))
      have HDL := Lib.hid (show ∀ k, ((dl cur).take k).all isDig = true by
        intro k
        rw [List.all_eq_true]
        intro x hx
        have h1 := HD.out
        rw [List.all_eq_true] at h1
        refine h1 x (List.mem_of_mem_drop (i := p) ?_)
        rw [← hcur.out]
        exact List.mem_of_mem_take hx)
      go_wp2_with fail
      go_loopw [5, 6, 17] (fun sc va i w2 => ∃ (k S V : Nat), k ≤ c ∧ i = .int .i64 k ∧ sc = .int .u32 (S : Int) ∧ va = .int .u32 (V : Int) ∧ S ≤ 1000000000 ∧ V < 1000000000 ∧ Hid (S = 10 ^ k) ∧ Hid (V = decL ((dl cur).take k)) ∧ w2 = wr) (fun _ _ i _ => c - (intOf i).toNat)
      case atStart => exact ⟨0, 1, 0, by omega, rfl, rfl, rfl, by omega, by omega, rfl, by rw [Hid, List.take_zero]; rfl, rfl⟩
      case round =>
        obtain ⟨k, S, V, hk, rfl, rfl, rfl, hS, hV, hSe, hVe, rfl⟩ := hrel
        by_cases hlt2 : k < c
        · have hk8 : S ≤ 100000000 := by rw [hSe.out]; exact Nat.pow_le_pow_right (by decide) (show k ≤ 8 by omega)
          have hV8 : V < 100000000 := by
            have h1 := decL_lt (HDL.out k)
            rw [← hVe.out, List.length_take, Nat.min_eq_left (by rw [dl_length]; omega), ← hSe.out] at h1
            omega
          have hkc : k < cur.size := by omega
          have hg := dl_get cur k hkc
          have hdg := HDC.out k hkc
          rw [← hg] at hdg
          have h48 : 48 ≤ cur[k].toNat := by simp [isDig] at hdg; exact hdg.1
          have h57 : cur[k].toNat ≤ 57 := by simp [isDig] at hdg; exact hdg.2
          have HG := Lib.hid hg
          clear hg hdg
          go_wp2_with fail
          go_roundw
          case rel =>
            refine ⟨k + 1, S * 10, V * 10 + (cur[k].toNat - 48), by omega, by go_num, congrArg (Value.int IntKind.u32) (by omega), congrArg (Value.int IntKind.u32) (by omega), by omega, by omega, ?_, ?_, trivial⟩
            · rw [Hid, hSe.out, Nat.pow_succ]
            · rw [Hid, take_snoc_getD (by rw [dl_length]; exact hkc), decL_snoc, ← hVe.out, ← HG.out]
          case measure => simp [intOf] <;> omega
        · have hkc : k = c := by omega
          have hSp : 0 < S := by rw [hSe.out]; exact Nat.pow_pos (by decide)
          have hnew : S * decL (L.take p) + V = decL (L.take (p + c)) := by
            rw [hSe.out, hVe.out, hkc, List.take_add, decL_append, ← hcur.out, List.length_take, Nat.min_eq_left (by rw [dl_length]; omega)]
          have hle : decL (L.take (p + c)) ≤ decL L := by
            have h1 := decL_append (L.take (p + c)) (L.drop (p + c))
            rw [List.take_append_drop] at h1
            rw [h1]
            have h2 : 1 * decL (L.take (p + c)) ≤ 10 ^ (L.drop (p + c)).length * decL (L.take (p + c)) := Nat.mul_le_mul_right _ (Nat.pow_pos (by decide))
            omega
          have hex := ext_own w.heap.size _ (decL (L.take p)) S V wr hbel.out.size ho.out (by have := hfit.out; omega) hSp (by omega) (by omega)
          rw [hnew] at hex
          have HEX := Lib.hid hex
          have HKC := Lib.hid hkc
          have HLE := Lib.hid hle
          clear hex hnew hkc hle
          go_wp2_with fail
          go_at_call 119
          refine HEX.out.mono ?_
          rintro e w3 ⟨⟨v3, rfl, ho3⟩, hb3⟩
          have B3 := Lib.hid (hbel.out.trans hb3)
          have HO3 := Lib.hid ho3
          have HA3 := Lib.hid (show IsN w3 v3 (decL (L.take (p + c))) from (atP_of_owns ho3).at)
          clear ho3 hb3 HEX
          by_cases hfit2 : (Nl.limbs (decL (L.take (p + c)))).length ≤ 1024
          · have HLM := Lib.hid (limited_yes v3 _ w3 HA3.out hfit2)
            have HF := Lib.hid hfit2
            clear hfit2
            go_wp2_with fail
            go_at_call 120
            refine HLM.out.mono ?_
            rintro e w4 ⟨rfl, rfl⟩
            go_wp2_with fail
            go_roundw
            case rel =>
              have hce : cur.size - c + (p + c) = L.length := by have := hsize.out; omega
              have hsz : (cur.extract c cur.size).size = cur.size - c := by rw [← dl_length, dl_drop, List.length_drop, dl_length]
              refine ⟨cur.extract c cur.size, p + c, rfl, ?_, ?_, ?_, HO3.out, HF.out, B3.out⟩
              · rw [Hid, dl_drop, hcur.out, List.drop_drop]
              · rw [Hid, hsz]; exact hce
              · rw [hsz]; omega
            case measure =>
              have hsz : (cur.extract c cur.size).size = cur.size - c := by rw [← dl_length, dl_drop, List.length_drop, dl_length]
              show (cur.extract c cur.size).size < cur.size
              rw [hsz]; omega
          · have HLM := Lib.hid (limited_no v3 _ w3 HA3.out (by omega))
            have HF := Lib.hid hfit2
            clear hfit2
            go_wp2_with fail
            go_at_call 120
            refine HLM.out.mono ?_
            rintro e w4 ⟨rfl, rfl⟩
            exact ⟨rfl, B3.out, .inr ⟨Nat.lt_of_lt_of_le (Nat.lt_of_not_le HF.out) (Nl.limbs_mono HLE.out), rfl⟩⟩
    · have t0 : decide (0 < cur.size) = false := decide_eq_false hlt
      have hall : L.take p = L := List.take_of_length_le (by have := hsize.out; omega)
      have hA : IsN wr _ (decL (L.take p)) := (atP_of_owns ho.out).at
      rw [hall] at hA
      have hf := hfit.out
      rw [hall] at hf
      have HA := Lib.hid hA
      have HF := Lib.hid hf
      clear hall hA hf
      go_wp2_with fail
      go_ret
      exact ⟨hbel.out, .inl ⟨HF.out, _, rfl, HA.out⟩⟩
end Go.Proofs.YtfaledeidjmooaaGreat
