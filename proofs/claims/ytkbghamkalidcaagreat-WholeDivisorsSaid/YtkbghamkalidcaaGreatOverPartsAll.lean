/-
  What the division of two parts by one does. Conditions: those that each theorem names.
  What overParts does with the closure of overBlocks. Conditions: those that each theorem names.
  What overParts does with the closure of overBlocks. Conditions: those that each theorem names.
-/
import Derived.Test.YtkbghamkalidcaaGreatThree
namespace Go.Proofs.YtkbghamkalidcaaGreat
open Go.RowKit

/-- what the closure of a division by halves finds in memory -/
def TwoCells (C T cut : Nat) (w : World) : Prop := w.cell? ⟨C, 0, none⟩ = some (.int .i64 cut) ∧ w.cell? ⟨T, 0, none⟩ = some (.func (.func 251) #[] #[.pointer (some ⟨C, 0, none⟩), .pointer (some ⟨T, 0, none⟩)]) ∧ C < w.heap.size ∧ T < w.heap.size
theorem TwoCells.below {C T cut : Nat} {w w' : World} (h : TwoCells C T cut w) (hb : Below w.heap.size w w') : TwoCells C T cut w' :=
  ⟨(hb.cell (p := ⟨C, 0, none⟩) h.2.2.1).trans h.1, (hb.cell (p := ⟨T, 0, none⟩) h.2.2.2).trans h.2.1, Nat.lt_of_lt_of_le h.2.2.1 hb.size, Nat.lt_of_lt_of_le h.2.2.2 hb.size⟩

theorem two_small {p : Nat → Prop} {C T cut h : Nat} {w : World} (hp : ∀ b, w.heap.size ≤ b → p b) (_hcut : cut ≤ 1000000) (hc : TwoCells C T cut w) (hh : h < cut) (hh2 : h ≤ 20000) : TwoOk p C T h w := by
  intro va vb m n w' hb ha hbn hn1 hn2 hm
  have hp' : ∀ b, w'.heap.size ≤ b → p b := fun b h => hp b (Nat.le_trans hb.size h)
  have hc' := hc.below hb
  obtain ⟨c1, -, c3, -⟩ := hc'
  have hl : (Nl.limbs m).length ≤ 900000 := by
    have h1 : m < 4294967296 ^ (2 * h) := by
      rw [show 2 * h = h + h by omega, Nat.pow_add]
      exact Nat.lt_of_lt_of_le hm (Nat.mul_le_mul_right _ (Nat.le_of_lt hn1))
    have h2 := Nl.limbs_lt h1
    omega
  have hnp : 0 < n := by
    have := Nat.pow_pos (n := h) (show 0 < 4294967296 by decide)
    omega
  have HE := Lib.hid (overElements_in p va vb m n w' hp' ha hbn.at hl hnp)
  have t1 : decide (h < cut) = true := decide_eq_true hh
  have t2 : decide ((h : Int) < (cut : Int)) = true := decide_eq_true (by omega)
  obtain ⟨a, ca, rfl, -⟩ := ha.form
  obtain ⟨b, cb, rfl, -⟩ := hbn.form
  clear hb ha hbn hn1 hn2 hm hl hnp hc hp hp'
  go_enter Tryz.func251, Tryz.ntmps251
  go_wp2_with fail
  refine HE.out.mono ?_
  rintro e w1 ⟨⟨v, u, rfl, hv, hu⟩, hb1⟩
  have HV := Lib.hid (And.intro hv (And.intro hu hb1))
  clear hv hu hb1
  go_wp2_with fail
  go_ret2
  exact ⟨⟨v, u, rfl, HV.out.1, HV.out.2.1⟩, HV.out.2.2⟩

theorem two_end {m b A low q1 r1 q0 r0 M x : Nat} (hm : m = A * M + low) (h1 : q1 = A / b) (h2 : r1 = A % b) (hx : x = low + M * r1) (h3 : q0 = x / b) (h4 : r0 = x % b) (hb : 0 < b) : q0 + M * q1 = m / b ∧ r0 = m % b := by
  have e1 := Nat.div_add_mod A b
  have e2 := Nat.div_add_mod x b
  rw [← h1, ← h2] at e1
  rw [← h3, ← h4] at e2
  have hr : r0 < b := by rw [h4]; exact Nat.mod_lt _ hb
  have e : m = b * (q0 + M * q1) + r0 := by
    rw [hm, ← e1, Nat.add_mul, Nat.mul_add b q0, Nat.mul_assoc b q1 M, Nat.mul_comm q1 M, Nat.mul_comm r1 M]
    omega
  constructor
  · rw [e, Nat.mul_add_div hb, Nat.div_eq_of_lt hr, Nat.add_zero]
  · rw [e, Nat.mul_add_mod, Nat.mod_eq_of_lt hr]

set_option maxRecDepth 10000 in
set_option maxHeartbeats 4000000 in
theorem two_step {p : Nat → Prop} {C T cut h : Nat} {w : World} (hp : ∀ b, w.heap.size ≤ b → p b) (hc : TwoCells C T cut w) (hh : cut ≤ 2 * h) (h1 : 1 ≤ h) (hh2 : h ≤ 10000) (hf : TwoOk p C T h w) : TwoOk p C T (2 * h) w := by
  intro va vb m n w0 hb0 ha hbn hn1 hn2 hm
  have HPP := Lib.hid (show ∀ b, w0.heap.size ≤ b → p b from fun b h => hp b (Nat.le_trans hb0.size h))
  clear hp
  have hc' := hc.below hb0
  have hf' := hf.below hb0
  obtain ⟨c1, hT, c3, hTl⟩ := hc'
  have hnp : 0 < n := by
    have := Nat.pow_pos (n := 2 * h) (show 0 < 4294967296 by decide)
    omega
  obtain ⟨M, hM⟩ : ∃ M, M = 4294967296 ^ h := ⟨_, rfl⟩
  have hMM : 4294967296 ^ (2 * h) = M * M := by rw [hM, ← Nat.pow_add]; congr 1; omega
  have hMp : 0 < M := by rw [hM]; exact Nat.pow_pos (by decide)
  have pm := Nat.div_add_mod m M
  have pl := Nat.mod_lt m hMp
  have pA : m / M < n * M := by
    rw [Nat.div_lt_iff_lt_mul hMp, Nat.mul_assoc, ← hMM]
    exact hm
  have haa := above_num p va m h w0.drew (show AtP p w0.drew va (Nl.limbs m) from ha) (by omega)
  rw [← hM] at haa
  obtain ⟨A, hA⟩ : ∃ A, A = m / M := ⟨_, rfl⟩
  obtain ⟨low, hlow⟩ : ∃ l, l = m % M := ⟨_, rfl⟩
  rw [← hA] at haa pm pA
  rw [← hlow] at pm pl
  have HA := Lib.hid ha
  have HB := Lib.hid hbn
  have HAA := Lib.hid haa
  have HF := Lib.hid hf'
  have HM := Lib.hid hM
  have HP := Lib.hid (And.intro pm (And.intro pl (And.intro pA (And.intro hn1 (And.intro hn2 hnp)))))
  have HE := Lib.hid (And.intro hA hlow)
  have HMM := Lib.hid hMM
  have t1 : decide (2 * h < cut) = false := decide_eq_false (by omega)
  have t2 : decide (2 * (h : Int) < (cut : Int)) = false := decide_eq_false (by omega)
  have e2 : 2 * (h : Int) / 2 = (h : Int) := by omega
  obtain ⟨a, ca, rfl, -⟩ := ha.form
  obtain ⟨b, cb, rfl, -⟩ := hbn.form
  clear ha hbn haa hf hf' hM pm pl pA hn1 hn2 hnp hm hMM hMp hA hlow hb0 hc
  go_enter Tryz.func251, Tryz.ntmps251
  go_wp2_with fail
  go_region_held3 (fun w' => w'.cell? ⟨T, 0, none⟩ = some (.func (.func 251) #[] #[.pointer (some ⟨C, 0, none⟩), .pointer (some ⟨T, 0, none⟩)]))
    (first
      | go_keep
      | assumption)
    (first
      | (go_at_call 223; refine HAA.out.mono ?_; rintro e w' ⟨⟨vA, rfl, hvA⟩, rfl⟩)
      | (go_at_call 252; refine (threeByTwo_any p vA _ A n h C T w0.drew HPP.out hvA (show AtP p w0.drew _ (Nl.limbs n) from HB.out) hh2 h1 HP.out.2.2.2.1 HP.out.2.2.2.2.1 (by rw [← HM.out]; exact HP.out.2.2.1) (HF.out.below (Below.drew (Below.refl _ _)))).mono ?_; rintro e w1 ⟨⟨vq1, vr1, rfl, hq1, hr1⟩, hb1⟩; have hT1 := (hb1.cell (p := ⟨T, 0, none⟩) hTl).trans hT))
  have hb01 : Below w0.heap.size w0 w1 := Below.trans (b := w0.drew) (Below.drew (Below.refl _ _)) hb1
  have B1 := Lib.hid hb01
  have HQ1 := Lib.hid (And.intro hq1 hr1)
  have hbm := below_num p _ m h w1.drew (show AtP p w1.drew _ (Nl.limbs m) from HA.out.below (Below.drew hb01)) (by omega)
  rw [← HM.out, ← HE.out.2] at hbm
  have HBM := Lib.hid hbm
  have hTl1 : T < w1.heap.size := Nat.lt_of_lt_of_le hTl hb01.size
  have lenl : (Nl.limbs low).length ≤ h := Nl.limbs_lt (by rw [← HM.out]; exact HP.out.2.1)
  have hrb : A % n < n := Nat.mod_lt _ HP.out.2.2.2.2.2
  have lenr : (Nl.limbs (A % n)).length ≤ 2 * h := Nl.limbs_lt (Nat.lt_trans hrb HP.out.2.2.2.1)
  have hx : low + M * (A % n) < n * M := by
    have h5 : M * (A % n + 1) ≤ M * n := Nat.mul_le_mul_left M hrb
    rw [Nat.mul_add, Nat.mul_one, Nat.mul_comm M n] at h5
    have h6 := HP.out.2.1
    omega
  have HX := Lib.hid hx
  clear hb1 hq1 hr1 hbm hT hrb hx HAA
  go_wp2_with fail
  go_region_held3 (fun w' => w'.cell? ⟨T, 0, none⟩ = some (.func (.func 251) #[] #[.pointer (some ⟨C, 0, none⟩), .pointer (some ⟨T, 0, none⟩)]))
    (first
      | go_keep
      | assumption)
    (first
      | (go_at_call 254; refine HBM.out.mono ?_; rintro e w' ⟨⟨vl, rfl, hvl⟩, rfl⟩)
      | (go_at_call 253; refine (joined_in p vr1 vl (A % n) low h w1.drew (fun b hb => HPP.out b (Nat.le_trans hb01.size hb)) (show AtP p w1.drew _ _ from HQ1.out.2) hvl (by omega) (by omega) lenl).mono ?_; rintro e w2 ⟨⟨vj, rfl, hvj⟩, hb2⟩; have hT2 := (hb2.cell (p := ⟨T, 0, none⟩) hTl1).trans hT1)
      | (go_at_call 252; refine (threeByTwo_any p vj _ (low + M * (A % n)) n h C T w2 (fun b hb => HPP.out b (Nat.le_trans hb01.size (Nat.le_trans hb2.size hb))) (by rw [HM.out]; exact hvj) (AtP.below (show AtP p w1.drew _ (Nl.limbs n) from HB.out.below (Below.drew hb01)) hb2) hh2 h1 HP.out.2.2.2.1 HP.out.2.2.2.2.1 (by rw [← HM.out]; exact HX.out) (HF.out.below (hb01.trans (Below.trans (b := w1.drew) (Below.drew (Below.refl _ _)) (hb2.mono hb01.size))))).mono ?_; rintro e w3 ⟨⟨vq0, vr0, rfl, hq0, hr0⟩, hb3⟩; have hT3 := (hb3.cell (p := ⟨T, 0, none⟩) (Nat.lt_of_lt_of_le hTl1 hb2.size)).trans hT2))
  have hb12 : Below w1.heap.size w1 w2 := Below.trans (b := w1.drew) (Below.drew (Below.refl _ _)) hb2
  have hb13 : Below w1.heap.size w1 w3 := hb12.trans (hb3.mono hb12.size)
  have B3 := Lib.hid (hb01.trans (hb13.mono hb01.size))
  have HQ0 := Lib.hid (And.intro hq0 hr0)
  have HQ13 := Lib.hid (HQ1.out.1.below hb13)
  have hq0M : (low + M * (A % n)) / n < 4294967296 ^ h := by rw [← HM.out]; exact Nat.div_lt_of_lt_mul HX.out
  have hq1M : A / n < 4294967296 ^ h := by rw [← HM.out]; exact Nat.div_lt_of_lt_mul HP.out.2.2.1
  have HJ := Lib.hid (joined_any vq1 vq0 (A / n) ((low + M * (A % n)) / n) h w3 HQ13.out hq0 (by have := Nl.limbs_lt hq1M; omega) (by omega) (Nl.limbs_lt hq0M))
  have HEND := Lib.hid (two_end (m := m) (b := n) (A := A) (low := low) (M := M) (x := low + M * (A % n)) (by have := HP.out.1; rw [Nat.mul_comm]; exact this.symm) rfl rfl rfl rfl rfl HP.out.2.2.2.2.2)
  clear hb12 hb13 hb2 hb3 hq0 hr0 hvj hvl hT1 hT2 hT3 hq0M hq1M hb01 HBM
  go_wp2_with fail
  refine HJ.out.mono ?_
  rintro e w4 ⟨⟨vq, rfl, hq⟩, hb4⟩
  rw [← HM.out, HEND.out.1] at hq
  have HQ := Lib.hid hq
  have HB4 := Lib.hid hb4
  clear hq hb4 HJ
  go_wp2_with fail
  go_ret2
  refine ⟨⟨_, _, rfl, HQ.out, ?_⟩, B3.out.trans (HB4.out.mono B3.out.size)⟩
  rw [← HEND.out.2]
  exact HQ0.out.2.below HB4.out
theorem halving_any {p : Nat → Prop} {C T cut s : Nat} {w : World} (hp : ∀ b, w.heap.size ≤ b → p b) (_hcut2 : 2 ≤ cut) (hcut : cut ≤ 1000000) (hc : TwoCells C T cut w) (hs0 : 0 < s) (hs : s < cut) : ∀ j, s * 2 ^ j ≤ 20000 → TwoOk p C T (s * 2 ^ j) w := by
  intro j
  induction j with
  | zero =>
    intro hb
    rw [Nat.pow_zero, Nat.mul_one] at hb ⊢
    exact two_small hp hcut hc hs hb
  | succ j ih =>
    intro hb
    rw [show s * 2 ^ (j + 1) = 2 * (s * 2 ^ j) by rw [Nat.pow_succ, ← Nat.mul_assoc, Nat.mul_comm]] at hb ⊢
    by_cases hlt : 2 * (s * 2 ^ j) < cut
    · exact two_small hp hcut hc hlt hb
    · exact two_step hp hc (by omega) (Nat.mul_pos hs0 (Nat.two_pow_pos j)) (by omega) (ih (by omega))
end Go.Proofs.YtkbghamkalidcaaGreat

namespace Go.Proofs.YtkbghamkalidcaaGreat
open Go.RowKit

/-- a division by d of what has at most S words more, by the closure -/
def PartOk (p : Nat → Prop) (p1 p2 p3 : Value) (d S : Nat) (w : World) : Prop := ∀ (va : Value) (m : Nat) (w' : World), Below w.heap.size w w' → AtP p w' va (Nl.limbs m) → m < d * 4294967296 ^ S →
    Calls Tryz.prog 256 #[va, p1, p2, p3] w' fun e w'' => DivIn p w' w'' e m d
theorem PartOk.below {p : Nat → Prop} {p1 p2 p3 : Value} {d S : Nat} {w w1 : World} (k : PartOk p p1 p2 p3 d S w) (hb : Below w.heap.size w w1) : PartOk p p1 p2 p3 d S w1 :=
  fun va m w' h1 => k va m w' (hb.trans (h1.mono hb.size))

theorem part_two {p : Nat → Prop} {C T Bx Sx d S : Nat} {vb : Value} {w : World} (hT : w.cell? ⟨T, 0, none⟩ = some (.func (.func 251) #[] #[.pointer (some ⟨C, 0, none⟩), .pointer (some ⟨T, 0, none⟩)])) (hTl : T < w.heap.size)
    (hB : w.cell? ⟨Bx, 0, none⟩ = some vb) (hBl : Bx < w.heap.size) (hS : w.cell? ⟨Sx, 0, none⟩ = some (.int .i64 S)) (hSl : Sx < w.heap.size) (hb : AtP p w vb (Nl.limbs d)) (hd1 : d < 4294967296 ^ S) (hd2 : 4294967296 ^ S ≤ 2 * d) (hf : TwoOk p C T S w) :
    PartOk p (.pointer (some ⟨T, 0, none⟩)) (.pointer (some ⟨Bx, 0, none⟩)) (.pointer (some ⟨Sx, 0, none⟩)) d S w := by
  intro va m w' hw ha hm
  have hT' := (hw.cell (p := ⟨T, 0, none⟩) hTl).trans hT
  have hB' := (hw.cell (p := ⟨Bx, 0, none⟩) hBl).trans hB
  have hS' := (hw.cell (p := ⟨Sx, 0, none⟩) hSl).trans hS
  have HC := Lib.hid (hf va vb m d w' hw ha (hb.below hw) hd1 hd2 hm)
  obtain ⟨a, ca, rfl, -⟩ := ha.form
  obtain ⟨b, cb, rfl, -⟩ := hb.form
  clear hw ha hm hT hB hS hf hb hd1 hd2
  go_enter Tryz.func256, Tryz.ntmps256
  go_wp2_with fail
  refine HC.out.mono ?_
  rintro e w1 ⟨⟨v, u, rfl, hv, hu⟩, hb1⟩
  have HV := Lib.hid (And.intro hv (And.intro hu hb1))
  clear hv hu hb1
  go_wp2_with fail
  go_ret2
  exact ⟨⟨v, u, rfl, HV.out.1, HV.out.2.1⟩, HV.out.2.2⟩

theorem parts_len {L S : Nat} (hS : 1 ≤ S) : L ≤ (L + S - 1) / S * S := by
  have h1 := Nat.div_add_mod (L + S - 1) S
  have h2 := Nat.mod_lt (L + S - 1) (show 0 < S by omega)
  rw [Nat.mul_comm] at h1
  omega
theorem parts_step {Q : List Nat} {S p x N : Nat} (hl : Q.length = N) (hp : p + S ≤ N) (hz : Q.take (p + S) = Nl.zeros (p + S)) (hs : Nl.Small Q) (hx : (Nl.limbs x).length ≤ S) :
    (splice Q p (Nl.limbs x)).length = N ∧ Nl.Small (splice Q p (Nl.limbs x)) ∧ (splice Q p (Nl.limbs x)).take p = Nl.zeros p ∧ Nl.val ((splice Q p (Nl.limbs x)).drop p) = x + 4294967296 ^ S * Nl.val (Q.drop (p + S)) := by
  have e : Q = Nl.zeros p ++ (Nl.zeros S ++ Q.drop (p + S)) := by
    conv => lhs; rw [← List.take_append_drop (p + S) Q, hz]
    rw [← List.append_assoc]
    congr 1
    simp [Nl.zeros]
  have hsp : splice Q p (Nl.limbs x) = Nl.zeros p ++ ((Nl.limbs x ++ Nl.zeros (S - (Nl.limbs x).length)) ++ Q.drop (p + S)) := by
    conv => lhs; rw [e]
    obtain ⟨D, hD⟩ : ∃ D, D = Q.drop (p + S) := ⟨_, rfl⟩
    rw [← hD]
    have h1 : (Nl.zeros p ++ (Nl.zeros S ++ D)).take p = Nl.zeros p := List.take_left' (Nl.zeros_length p)
    have h2 : (Nl.zeros p ++ (Nl.zeros S ++ D)).drop (p + (Nl.limbs x).length) = Nl.zeros (S - (Nl.limbs x).length) ++ D := by
      rw [← List.drop_drop, List.drop_left' (Nl.zeros_length p), List.drop_append_of_le_length (by rw [Nl.zeros_length]; exact hx), zeros_drop]
    rw [splice, h1, h2]
    simp only [List.append_assoc]
  have hll : (splice Q p (Nl.limbs x)).length = N := by rw [length_splice' _ _ _ (by omega), hl]
  refine ⟨hll, ?_, ?_, ?_⟩
  · rw [hsp]
    exact Nl.small_append.2 ⟨Nl.small_replicate _, Nl.small_append.2 ⟨Nl.small_append.2 ⟨Nl.limbs_small _, Nl.small_replicate _⟩, hs.drop _⟩⟩
  · rw [hsp]
    exact List.take_left' (Nl.zeros_length p)
  · rw [hsp, List.drop_left' (Nl.zeros_length p), Nl.val_append, Nl.val_append, Nl.val_replicate, Nl.val_limbs, Nat.mul_zero, Nat.add_zero, List.length_append, Nl.zeros_length, show (Nl.limbs x).length + (S - (Nl.limbs x).length) = S by omega]
/-- 'copy' of words; what else has not changed -/
theorem wp_copy_only {w : World} {ops : Array Oper} {rest : List Oper} {o : Oper} {a : Act} {Q : Exit → Act → World → Prop} (hgd : o.guard = none) (d s : Operand) (dT sT : TypeId)
    (ho : o.op = .call { callee := .builtin .copy, args := #[d, s], argTypes := #[dT, sT] }) (hu : Tryz.prog.underlying dT = some (.slice 80))
    (dp sp : Option Addr) (dLen dCap sLen sCap : Nat) (hd : a.eval d = .slice dp dLen dCap) (hs : a.eval s = .slice sp sLen sCap)
    (g off : Nat) (L xs : List Nat) (hg : Row w g L) (hn : xs.length = Nat.min sLen dLen)
    (hpos : 0 < xs.length → dp = some ⟨g, off, none⟩ ∧ ∃ b f, sp = some ⟨b, f, none⟩ ∧ Cells w b f xs)
    (hfit : off + xs.length ≤ L.length)
    (h : ∀ w', Hid (Row w' g (splice L off xs)) → Hid (Only g w w') → wpList Tryz.prog ops Q rest (a.put o.dst (goInt (vals xs).length)) w') :
    wpList Tryz.prog ops Q (o :: rest) a w := by
  by_cases h0 : xs.length = 0
  · obtain rfl : xs = [] := List.eq_nil_of_length_eq_zero h0
    refine wpList_copy_nothing hgd d s dT sT ho 80 hu sizeWord dp sp dLen dCap sLen sCap hd hs (by simpa using hn.symm) ?_
    exact h w (show Row w g _ by simpa [splice] using hg) (Only.refl g w)
  · obtain ⟨rfl, b, f, rfl, hc⟩ := hpos (by omega)
    refine wpList_copy_own hgd d s dT sT ho 80 hu sizeWord g off dLen dCap ⟨b, f, none⟩ sLen sCap hd hs (vals L).toArray 80 hg (vals xs) (by rw [vals_length]; exact hn) ?_ (by simpa [vals_length] using hfit) ?_ ?_
    · intro j v hj
      have hjl : j < xs.length := by
        have := (List.getElem?_eq_some_iff.1 hj).1
        rwa [vals_length] at this
      rw [vals_get hjl] at hj
      cases hj
      have := hc j hjl
      unfold Addr.add
      split
      · next h0 => subst h0; exact this
      · exact this
    · intro v hv
      obtain ⟨x, _, rfl⟩ := List.mem_map.1 hv
      rfl
    · have h1 := setRow_heap w g (vals L).toArray ((vals L).take off ++ (vals xs ++ (vals L).drop (off + (vals xs).length))).toArray 80 _ hg
      refine h _ ?_ ⟨rfl, rfl, rfl, by simp [World.setRow], fun k _ hne => setRow_other w g k _ (fun e => hne (by rw [e]))⟩
      have h2 := splice_map L xs off
      rw [splice] at h2
      rw [Hid, Row, ← h2]
      exact h1
end Go.Proofs.YtkbghamkalidcaaGreat

namespace Go.Proofs.YtkbghamkalidcaaGreat
open Go.RowKit

theorem AtP.kept_only {w w' : World} {v : Value} {xs : List Nat} {g : Nat} (h : AtP (· ≠ g) w v xs) (hg : Only g w w') : AtP (· ≠ g) w' v xs := h.only hg fun _ h => h
set_option maxRecDepth 10000 in
set_option maxHeartbeats 2000000 in
theorem overParts_any (p1 p2 p3 va : Value) (m d S : Nat) (w : World) (ha : IsN w va m) (hla : (Nl.limbs m).length ≤ 20000) (hS : 1 ≤ S) (hS2 : S ≤ 20000) (hd0 : 0 < d) (hd : d < 4294967296 ^ S)
    (hf : ∀ g w', Below w.heap.size w w' → w.heap.size ≤ g → g < w'.heap.size → PartOk (· ≠ g) p1 p2 p3 d S w') :
    Calls Tryz.prog 255 #[va, .int .i64 S, .func (.func 256) #[] #[p1, p2, p3]] w fun e w' => DivOk w w' e m d := by
  have hal := ha.mono (q := (· < w.heap.size)) fun _ h _ => h
  obtain ⟨L, hL⟩ : ∃ L, (Nl.limbs m).length = L := ⟨_, rfl⟩
  obtain ⟨N, hN⟩ : ∃ N, N = (L + S - 1) / S := ⟨_, rfl⟩
  obtain ⟨PS, hPS⟩ : ∃ x, x = N * S := ⟨_, rfl⟩
  have hLP : L ≤ PS := by rw [hPS, hN]; exact parts_len hS
  have hPSb : PS ≤ L + S - 1 := by rw [hPS, hN]; exact Nat.div_mul_le_self _ _
  have q1 : ((L : Int) + (S : Int) - 1) / (S : Int) = (N : Int) := by
    rw [show (L : Int) + (S : Int) - 1 = ((L + S - 1 : Nat) : Int) by omega, hN]; rfl
  have q2 : (N : Int) * (S : Int) = (PS : Int) := by rw [hPS, Int.natCast_mul]
  have q3 : (S : Int) * ((N : Int) - 1) = (PS : Int) - (S : Int) := by rw [Int.mul_sub, Int.mul_one, Int.mul_comm, q2]
  have hNb : N ≤ PS := by rw [hPS]; exact Nat.le_mul_of_pos_right N hS
  have hSz : ¬ ((S : Int) = 0) := by omega
  have hmk := make_words 183 Tryz.underlying183 w (PS : Int) PS rfl (by omega)
  have hm0 : m / 4294967296 ^ PS = 0 := by
    apply Nat.div_eq_of_lt
    refine Nat.lt_of_lt_of_le (Nl.lt_limbs m) ?_
    rw [hL]
    exact Nl.pow_le hLP
  have HK := Lib.hid (show ∃ k, PS = k * S from ⟨N, hPS⟩)
  have HL := Lib.hid hL
  have HA := Lib.hid hal
  have HF := Lib.hid hf
  have HD := Lib.hid (And.intro hd0 hd)
  have HM0 := Lib.hid hm0
  obtain ⟨a, ca, rfl, -⟩ := ha.form
  rw [hL] at HA ⊢
  have hLb : L ≤ 20000 := by omega
  clear ha hal hL hN hPS hf hd0 hd hm0 hla
  go_enter Tryz.func255, Tryz.ntmps255
  go_wp2_with fail
  clear hmk q1 q2 q3 hSz hNb
  obtain ⟨gQ, hgQ⟩ : ∃ g, g = w.heap.size := ⟨_, rfl⟩
  rw [← hgQ]
  obtain ⟨w1, hw1⟩ : ∃ w1, w1 = w.alloc (.cells (vals (Nl.zeros PS)).toArray 80) := ⟨_, rfl⟩
  rw [← hw1]
  have b01 : Below w.heap.size w w1 := by rw [hw1]; exact (Below.refl _ _).alloc (Nat.le_refl _) _
  have Q1 := Lib.hid (show Row w1 gQ (Nl.zeros PS) by rw [hw1, hgQ]; exact row_new w _)
  have B1 := Lib.hid b01
  have HA1 := Lib.hid (show AtP (· ≠ gQ) w1 (.slice a L ca) (Nl.limbs m) from (HA.out.mono fun b _ h => (by rw [hgQ]; exact Nat.ne_of_lt h : b ≠ gQ)).below b01)
  have HG := Lib.hid hgQ
  clear hw1 b01 HA hgQ
  go_loopw [7, 9] (fun r i wr => ∃ (p R : Nat) (Q : List Nat), Hid (∃ k, p = k * S) ∧ p ≤ PS ∧ i = .int .i64 ((p : Int) - (S : Int)) ∧ Hid (AtP (· ≠ gQ) wr r (Nl.limbs R)) ∧ Hid (Row wr gQ Q) ∧ Hid (w1.grownBy wr (some gQ)) ∧ Hid (Q.length = PS) ∧ Hid (Nl.Small Q) ∧
      Hid (Q.take p = Nl.zeros p) ∧ Hid (Nl.val (Q.drop p) = m / 4294967296 ^ p / d) ∧ Hid (R = m / 4294967296 ^ p % d)) (fun _ i _ => (intOf i + S).toNat)
  case atStart =>
    refine ⟨PS, 0, _, HK.out, Nat.le_refl _, rfl, .inl ⟨rfl, Nl.limbs_zero⟩, Q1.out, Only.refl gQ w1, Nl.zeros_length _, Nl.small_replicate _, List.take_of_length_le (by rw [Nl.zeros_length]; exact Nat.le_refl _), ?_, ?_⟩
    · rw [Hid, HM0.out, Nat.zero_div, zeros_drop', Nl.val_replicate]
    · rw [Hid, HM0.out, Nat.zero_mod]
  case round =>
    obtain ⟨p, R, Q, hk, hpb, rfl, hr, hq, hon, hlQ, hsQ, htz, hvq, hvr⟩ := hrel
    have hbel : Below w.heap.size w wr := below_of_only B1.out hon.out (by rw [HG.out]; exact Nat.le_refl _) B1.out.size
    have HBEL := Lib.hid hbel
    clear hbel
    by_cases hlt : p < S
    · have hp0 : p = 0 := by
        obtain ⟨k, hkk⟩ := hk.out
        cases k with
        | zero => rw [hkk, Nat.zero_mul]
        | succ k => rw [Nat.add_mul, Nat.one_mul] at hkk; omega
      subst hp0
      have h1 := hvq.out
      have h2 := hvr.out
      rw [Nat.pow_zero, Nat.div_one, List.drop_zero] at h1
      rw [Nat.pow_zero, Nat.div_one] at h2
      have H1 := Lib.hid (And.intro h1 h2)
      clear h1 h2
      go_wp2_with fail
      refine (trimmed_row gQ _ Q wr hlQ.out hq.out (by omega)).mono ?_
      rintro e w' ⟨rfl, rfl⟩
      go_wp2_with fail
      go_ret2
      refine ⟨⟨_, _, rfl, (Own.num (base := 0) (k := m / d) (Nat.zero_le _) hq.out hlQ.out (by omega) hsQ.out H1.out.1).at.at, ?_⟩, HBEL.out⟩
      rw [← H1.out.2]
      exact hr.out.at
    · obtain ⟨t, ht⟩ : ∃ t, p = t + S := ⟨p - S, by omega⟩
      subst ht
      rw [show ((t + S : Nat) : Int) - (S : Int) = (t : Int) by omega]
      obtain ⟨A, hA⟩ : ∃ A, A = m / 4294967296 ^ (t + S) := ⟨_, rfl⟩
      obtain ⟨low, hlow⟩ : ∃ l, l = m / 4294967296 ^ t % 4294967296 ^ S := ⟨_, rfl⟩
      have hm' : m / 4294967296 ^ t = A * 4294967296 ^ S + low := by
        rw [hA, hlow, Nat.pow_add, ← Nat.div_div_eq_div_mul, Nat.mul_comm]
        exact (Nat.div_add_mod _ _).symm
      have hRd : R < d := by rw [hvr.out]; exact Nat.mod_lt _ HD.out.1
      have hlowS : low < 4294967296 ^ S := by rw [hlow]; exact Nat.mod_lt _ (Nat.pow_pos (by decide))
      have hx : low + 4294967296 ^ S * R < d * 4294967296 ^ S := by
        have h5 : 4294967296 ^ S * (R + 1) ≤ 4294967296 ^ S * d := Nat.mul_le_mul_left _ hRd
        rw [Nat.mul_add, Nat.mul_one, Nat.mul_comm (4294967296 ^ S) d] at h5
        omega
      have hab := above_num (· ≠ gQ) _ m t wr (HA1.out.kept_only hon.out) (by omega)
      have HAB := Lib.hid hab
      have HX := Lib.hid (And.intro hm' (And.intro hx (And.intro hlowS hRd)))
      have HLOW := Lib.hid (And.intro hlow hA)
      clear hab hm' hx hRd hlowS hlow hA
      go_wp2_with fail
      refine HAB.out.mono ?_
      rintro e w' ⟨⟨v1, rfl, hv1⟩, rfl⟩
      have hbw := below_num (· ≠ gQ) v1 _ S wr hv1 (by omega)
      rw [← HLOW.out.1] at hbw
      have HBW := Lib.hid hbw
      clear hv1 hbw HAB
      go_wp2_with fail
      refine HBW.out.mono ?_
      rintro e w' ⟨⟨v2, rfl, hv2⟩, rfl⟩
      have HJ := Lib.hid (joined_in (· ≠ gQ) _ v2 R low S wr (fun b hb => by have := hq.out.lt; omega) hr.out hv2 (by have := Nl.limbs_lt (Nat.lt_trans HX.out.2.2.2 HD.out.2); omega) (by omega) (Nl.limbs_lt HX.out.2.2.1))
      clear hv2 HBW
      go_wp2_with fail
      refine HJ.out.mono ?_
      rintro e w2 ⟨⟨v3, rfl, hv3⟩, hb2⟩
      have B2 := Lib.hid (HBEL.out.trans (hb2.mono HBEL.out.size))
      have hq2 := hq.out.below hb2 hq.out.lt
      have HC := Lib.hid (HF.out gQ w2 B2.out (by have := HG.out; omega) hq2.lt v3 _ w2 (Below.refl _ _) hv3 HX.out.2.1)
      have HQ2 := Lib.hid hq2
      have HB2 := Lib.hid hb2
      clear hv3 hb2 hq2 HJ
      go_wp2_with fail
      refine HC.out.mono ?_
      rintro e w3 ⟨⟨vx, vr, rfl, hx3, hr3⟩, hb3⟩
      obtain ⟨x, hxe⟩ : ∃ x, x = (low + 4294967296 ^ S * R) / d := ⟨_, rfl⟩
      rw [← hxe] at hx3
      have hxS : x < 4294967296 ^ S := by rw [hxe]; exact Nat.div_lt_of_lt_mul HX.out.2.1
      have hxl := Nl.limbs_lt hxS
      have HX3 := Lib.hid hx3
      have HR3 := Lib.hid hr3
      have HXE := Lib.hid hxe
      have HQ3 := Lib.hid (HQ2.out.below hb3 HQ2.out.lt)
      have HO3 := Lib.hid (show w1.grownBy w3 (some gQ) from grown_trans hon.out (grown_of_below (HB2.out.trans (hb3.mono HB2.out.size))))
      obtain ⟨px, cx, rfl, -⟩ := hx3.form
      clear hx3 hr3 hb3 hxe hxS HC HB2
      go_wp2_with (with_reducible refine wp_copy_only rfl (.tmp 46) (.tmp 47) 183 183 rfl Tryz.underlying183 _ _ _ _ _ _ rfl rfl gQ t Q (Nl.limbs x) HQ3.out ?_ ?_ ?_ ?_)
      · exact (Nat.min_eq_left (by omega)).symm
      · intro h0
        obtain ⟨b', f', h1, -, h2⟩ := HX3.out.cells h0
        exact ⟨b', f', h1, h2⟩
      · rw [hlQ.out]; omega
      intro w4 hr4 ho4
      have HST := Lib.hid (parts_step (x := x) (S := S) hlQ.out hpb htz.out hsQ.out hxl)
      have HEND := Lib.hid (two_end (m := m / 4294967296 ^ t) (b := d) (A := A) (low := low) (M := 4294967296 ^ S) (x := low + 4294967296 ^ S * R) HX.out.1 rfl rfl (by rw [hvr.out, HLOW.out.2]) rfl rfl HD.out.1)
      go_wp2_with fail
      go_roundw
      case rel =>
        refine ⟨t, _, splice Q t (Nl.limbs x), ?_, by omega, by go_num, HR3.out.kept_only ho4.out, hr4.out, grown_trans HO3.out ho4.out, HST.out.1, HST.out.2.1, HST.out.2.2.1, ?_, HEND.out.2⟩
        · obtain ⟨k, hkk⟩ := hk.out
          cases k with
          | zero => rw [Nat.zero_mul] at hkk; omega
          | succ k => exact ⟨k, by rw [Nat.add_mul, Nat.one_mul] at hkk; omega⟩
        · rw [Hid, HST.out.2.2.2, hvq.out, ← HEND.out.1, ← HLOW.out.2, HXE.out]
      case measure => simp [intOf] <;> omega
end Go.Proofs.YtkbghamkalidcaaGreat
