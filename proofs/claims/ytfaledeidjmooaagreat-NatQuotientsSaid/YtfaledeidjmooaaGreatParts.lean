/-
  What overParts does with the closure of overBlocks. Conditions: those that each theorem names.
-/
import Derived.Test.YtfaledeidjmooaaGreatTwo
namespace Go.Proofs.YtfaledeidjmooaaGreat
open Go.RowKit

/-- a division by d of what has at most S words more, by the closure -/
def PartOk (p : Nat → Prop) (p1 p2 p3 : Value) (d S : Nat) (w : World) : Prop := ∀ (va : Value) (m : Nat) (w' : World), Below w.heap.size w w' → AtP p w' va (Nl.limbs m) → m < d * 4294967296 ^ S →
    Calls Tryz.prog 142 #[va, p1, p2, p3] w' fun e w'' => DivIn p w' w'' e m d
theorem PartOk.below {p : Nat → Prop} {p1 p2 p3 : Value} {d S : Nat} {w w1 : World} (k : PartOk p p1 p2 p3 d S w) (hb : Below w.heap.size w w1) : PartOk p p1 p2 p3 d S w1 :=
  fun va m w' h1 => k va m w' (hb.trans (h1.mono hb.size))

theorem part_two {p : Nat → Prop} {C T Bx Sx d S : Nat} {vb : Value} {w : World} (hT : w.cell? ⟨T, 0, none⟩ = some (.func (.func 137) #[] #[.pointer (some ⟨C, 0, none⟩), .pointer (some ⟨T, 0, none⟩)])) (hTl : T < w.heap.size)
    (hB : w.cell? ⟨Bx, 0, none⟩ = some vb) (hBl : Bx < w.heap.size) (hS : w.cell? ⟨Sx, 0, none⟩ = some (.int .i64 S)) (hSl : Sx < w.heap.size) (hb : AtP p w vb (Nl.limbs d)) (hd1 : d < 4294967296 ^ S) (hd2 : 4294967296 ^ S ≤ 2 * d) (hf : TwoOk p C T S w) :
    PartOk p (.pointer (some ⟨T, 0, none⟩)) (.pointer (some ⟨Bx, 0, none⟩)) (.pointer (some ⟨Sx, 0, none⟩)) d S w := by
  intro va m w' hw ha hm
  have hT' := (hw.cell (p := ⟨T, 0, none⟩) hTl).trans hT
  have hB' := (hw.cell (p := ⟨Bx, 0, none⟩) hBl).trans hB
  have hS' := (hw.cell (p := ⟨Sx, 0, none⟩) hSl).trans hS
  have HC := Lib.hid (hf va vb m d w' hw ha (hb.below hw) hd1 hd2 hm)
  obtain ⟨a, ca, rfl, -⟩ := ha.form
  obtain ⟨b, cb, rfl, -⟩ := hb.form
  clear hw ha hm hT hB hS hf hb hd1 hd2
  go_enter Tryz.func142, Tryz.ntmps142
  go_wp2_with fail
  refine HC.out.mono ?_
  rintro e w1 ⟨⟨v, u, rfl, hv, hu⟩, hb1⟩
  have HV := Lib.hid (And.intro hv (And.intro hu hb1))
  clear hv hu hb1
  go_wp2_with fail
  go_ret2
  exact ⟨⟨v, u, rfl, HV.out.1, HV.out.2.1⟩, HV.out.2.2⟩

theorem parts_len {L S : Nat} (hS : 1 ≤ S) : L ≤ (L + S - 1) / S * S := by
  have h1 := Nat.div_add_mod (L + S - 1) S
  have h2 := Nat.mod_lt (L + S - 1) (show 0 < S by omega)
  rw [Nat.mul_comm] at h1
  omega
theorem parts_step {Q : List Nat} {S p x N : Nat} (hl : Q.length = N) (hp : p + S ≤ N) (hz : Q.take (p + S) = Nl.zeros (p + S)) (hs : Nl.Small Q) (hx : (Nl.limbs x).length ≤ S) :
    (splice Q p (Nl.limbs x)).length = N ∧ Nl.Small (splice Q p (Nl.limbs x)) ∧ (splice Q p (Nl.limbs x)).take p = Nl.zeros p ∧ Nl.val ((splice Q p (Nl.limbs x)).drop p) = x + 4294967296 ^ S * Nl.val (Q.drop (p + S)) := by
  have e : Q = Nl.zeros p ++ (Nl.zeros S ++ Q.drop (p + S)) := by
    conv => lhs; rw [← List.take_append_drop (p + S) Q, hz]
    rw [← List.append_assoc]
    congr 1
    simp [Nl.zeros]
  have hsp : splice Q p (Nl.limbs x) = Nl.zeros p ++ ((Nl.limbs x ++ Nl.zeros (S - (Nl.limbs x).length)) ++ Q.drop (p + S)) := by
    conv => lhs; rw [e]
    obtain ⟨D, hD⟩ : ∃ D, D = Q.drop (p + S) := ⟨_, rfl⟩
    rw [← hD]
    have h1 : (Nl.zeros p ++ (Nl.zeros S ++ D)).take p = Nl.zeros p := List.take_left' (Nl.zeros_length p)
    have h2 : (Nl.zeros p ++ (Nl.zeros S ++ D)).drop (p + (Nl.limbs x).length) = Nl.zeros (S - (Nl.limbs x).length) ++ D := by
      rw [← List.drop_drop, List.drop_left' (Nl.zeros_length p), List.drop_append_of_le_length (by rw [Nl.zeros_length]; exact hx), zeros_drop]
    rw [splice, h1, h2]
    simp only [List.append_assoc]
  have hll : (splice Q p (Nl.limbs x)).length = N := by rw [length_splice' _ _ _ (by omega), hl]
  refine ⟨hll, ?_, ?_, ?_⟩
  · rw [hsp]
    exact Nl.small_append.2 ⟨Nl.small_replicate _, Nl.small_append.2 ⟨Nl.small_append.2 ⟨Nl.limbs_small _, Nl.small_replicate _⟩, hs.drop _⟩⟩
  · rw [hsp]
    exact List.take_left' (Nl.zeros_length p)
  · rw [hsp, List.drop_left' (Nl.zeros_length p), Nl.val_append, Nl.val_append, Nl.val_replicate, Nl.val_limbs, Nat.mul_zero, Nat.add_zero, List.length_append, Nl.zeros_length, show (Nl.limbs x).length + (S - (Nl.limbs x).length) = S by omega]
/-- 'copy' of words; what else has not changed -/
theorem wp_copy_only {w : World} {ops : Array Oper} {rest : List Oper} {o : Oper} {a : Act} {Q : Exit → Act → World → Prop} (hgd : o.guard = none) (d s : Operand) (dT sT : TypeId)
    (ho : o.op = .call { callee := .builtin .copy, args := #[d, s], argTypes := #[dT, sT] }) (hu : Tryz.prog.underlying dT = some (.slice 59))
    (dp sp : Option Addr) (dLen dCap sLen sCap : Nat) (hd : a.eval d = .slice dp dLen dCap) (hs : a.eval s = .slice sp sLen sCap)
    (g off : Nat) (L xs : List Nat) (hg : Row w g L) (hn : xs.length = Nat.min sLen dLen)
    (hpos : 0 < xs.length → dp = some ⟨g, off, none⟩ ∧ ∃ b f, sp = some ⟨b, f, none⟩ ∧ Cells w b f xs)
    (hfit : off + xs.length ≤ L.length)
    (h : ∀ w', Hid (Row w' g (splice L off xs)) → Hid (Only g w w') → wpList Tryz.prog ops Q rest (a.put o.dst (goInt (vals xs).length)) w') :
    wpList Tryz.prog ops Q (o :: rest) a w := by
  by_cases h0 : xs.length = 0
  · obtain rfl : xs = [] := List.eq_nil_of_length_eq_zero h0
    refine wpList_copy_nothing hgd d s dT sT ho 59 hu sizeWord dp sp dLen dCap sLen sCap hd hs (by simpa using hn.symm) ?_
    exact h w (show Row w g _ by simpa [splice] using hg) (Only.refl g w)
  · obtain ⟨rfl, b, f, rfl, hc⟩ := hpos (by omega)
    refine wpList_copy_own hgd d s dT sT ho 59 hu sizeWord g off dLen dCap ⟨b, f, none⟩ sLen sCap hd hs (vals L).toArray 59 hg (vals xs) (by rw [vals_length]; exact hn) ?_ (by simpa [vals_length] using hfit) ?_ ?_
    · intro j v hj
      have hjl : j < xs.length := by
        have := (List.getElem?_eq_some_iff.1 hj).1
        rwa [vals_length] at this
      rw [vals_get hjl] at hj
      cases hj
      have := hc j hjl
      unfold Addr.add
      split
      · next h0 => subst h0; exact this
      · exact this
    · intro v hv
      obtain ⟨x, _, rfl⟩ := List.mem_map.1 hv
      rfl
    · have h1 := setRow_heap w g (vals L).toArray ((vals L).take off ++ (vals xs ++ (vals L).drop (off + (vals xs).length))).toArray 59 _ hg
      refine h _ ?_ ⟨rfl, rfl, rfl, by simp [World.setRow], fun k _ hne => setRow_other w g k _ (fun e => hne (by rw [e]))⟩
      have h2 := splice_map L xs off
      rw [splice] at h2
      rw [Hid, Row, ← h2]
      exact h1
end Go.Proofs.YtfaledeidjmooaaGreat
