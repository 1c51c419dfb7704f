/-
  What the division of two parts by one does. Conditions: those that each theorem names.
  What overParts does with the closure of overBlocks. Conditions: those that each theorem names.
  What overParts does with the closure of overBlocks. Conditions: those that each theorem names.
  What overBlocks does. Conditions: those that each theorem names.
-/
import Derived.Test.YtodjncohhgknlaaGreatThreeAll
namespace Go.Proofs.YtodjncohhgknlaaGreat
open Go.RowKit

/-- what the closure of a division by halves finds in memory -/
def TwoCells (C T cut : Nat) (w : World) : Prop := w.cell? ⟨C, 0, none⟩ = some (.int .i64 cut) ∧ w.cell? ⟨T, 0, none⟩ = some (.func (.func 279) #[] #[.pointer (some ⟨C, 0, none⟩), .pointer (some ⟨T, 0, none⟩)]) ∧ C < w.heap.size ∧ T < w.heap.size
theorem TwoCells.below {C T cut : Nat} {w w' : World} (h : TwoCells C T cut w) (hb : Below w.heap.size w w') : TwoCells C T cut w' :=
  ⟨(hb.cell (p := ⟨C, 0, none⟩) h.2.2.1).trans h.1, (hb.cell (p := ⟨T, 0, none⟩) h.2.2.2).trans h.2.1, Nat.lt_of_lt_of_le h.2.2.1 hb.size, Nat.lt_of_lt_of_le h.2.2.2 hb.size⟩

theorem two_small {p : Nat → Prop} {C T cut h : Nat} {w : World} (hp : ∀ b, w.heap.size ≤ b → p b) (hcut : cut ≤ 1000000) (hc : TwoCells C T cut w) (hh : h < cut) (hh2 : h ≤ 20000) : TwoOk p C T h w := by
  intro va vb m n w' hb ha hbn hn1 hn2 hm
  have hp' : ∀ b, w'.heap.size ≤ b → p b := fun b h => hp b (Nat.le_trans hb.size h)
  have hc' := hc.below hb
  obtain ⟨c1, -, c3, -⟩ := hc'
  have hl : (Nl.limbs m).length ≤ 900000 := by
    have h1 : m < 4294967296 ^ (2 * h) := by
      rw [show 2 * h = h + h by omega, Nat.pow_add]
      exact Nat.lt_of_lt_of_le hm (Nat.mul_le_mul_right _ (Nat.le_of_lt hn1))
    have h2 := Nl.limbs_lt h1
    omega
  have hnp : 0 < n := by
    have := Nat.pow_pos (n := h) (show 0 < 4294967296 by decide)
    omega
  have HE := Lib.hid (overElements_in p va vb m n w' hp' ha hbn.at hl hnp)
  have t1 : decide (h < cut) = true := decide_eq_true hh
  have t2 : decide ((h : Int) < (cut : Int)) = true := decide_eq_true (by omega)
  obtain ⟨a, ca, rfl, -⟩ := ha.form
  obtain ⟨b, cb, rfl, -⟩ := hbn.form
  clear hb ha hbn hn1 hn2 hm hl hnp hc hp hp'
  go_enter Tryz.func279, Tryz.ntmps279
  go_wp2_with fail
  refine HE.out.mono ?_
  rintro e w1 ⟨⟨v, u, rfl, hv, hu⟩, hb1⟩
  have HV := Lib.hid (And.intro hv (And.intro hu hb1))
  clear hv hu hb1
  go_wp2_with fail
  go_ret2
  exact ⟨⟨v, u, rfl, HV.out.1, HV.out.2.1⟩, HV.out.2.2⟩

theorem two_end {m b A low q1 r1 q0 r0 M x : Nat} (hm : m = A * M + low) (h1 : q1 = A / b) (h2 : r1 = A % b) (hx : x = low + M * r1) (h3 : q0 = x / b) (h4 : r0 = x % b) (hb : 0 < b) : q0 + M * q1 = m / b ∧ r0 = m % b := by
  have e1 := Nat.div_add_mod A b
  have e2 := Nat.div_add_mod x b
  rw [← h1, ← h2] at e1
  rw [← h3, ← h4] at e2
  have hr : r0 < b := by rw [h4]; exact Nat.mod_lt _ hb
  have e : m = b * (q0 + M * q1) + r0 := by
    rw [hm, ← e1, Nat.add_mul, Nat.mul_add b q0, Nat.mul_assoc b q1 M, Nat.mul_comm q1 M, Nat.mul_comm r1 M]
    omega
  constructor
  · rw [e, Nat.mul_add_div hb, Nat.div_eq_of_lt hr, Nat.add_zero]
  · rw [e, Nat.mul_add_mod, Nat.mod_eq_of_lt hr]

set_option maxRecDepth 10000 in
set_option maxHeartbeats 4000000 in
theorem two_step {p : Nat → Prop} {C T cut h : Nat} {w : World} (hp : ∀ b, w.heap.size ≤ b → p b) (hc : TwoCells C T cut w) (hh : cut ≤ 2 * h) (h1 : 1 ≤ h) (hh2 : h ≤ 10000) (hf : TwoOk p C T h w) : TwoOk p C T (2 * h) w := by
  intro va vb m n w0 hb0 ha hbn hn1 hn2 hm
  have HPP := Lib.hid (show ∀ b, w0.heap.size ≤ b → p b from fun b h => hp b (Nat.le_trans hb0.size h))
  clear hp
  have hc' := hc.below hb0
  have hf' := hf.below hb0
  obtain ⟨c1, hT, c3, hTl⟩ := hc'
  have hnp : 0 < n := by
    have := Nat.pow_pos (n := 2 * h) (show 0 < 4294967296 by decide)
    omega
  obtain ⟨M, hM⟩ : ∃ M, M = 4294967296 ^ h := ⟨_, rfl⟩
  have hMM : 4294967296 ^ (2 * h) = M * M := by rw [hM, ← Nat.pow_add]; congr 1; omega
  have hMp : 0 < M := by rw [hM]; exact Nat.pow_pos (by decide)
  have pm := Nat.div_add_mod m M
  have pl := Nat.mod_lt m hMp
  have pA : m / M < n * M := by
    rw [Nat.div_lt_iff_lt_mul hMp, Nat.mul_assoc, ← hMM]
    exact hm
  have haa := above_num p va m h w0.drew (show AtP p w0.drew va (Nl.limbs m) from ha) (by omega)
  rw [← hM] at haa
  obtain ⟨A, hA⟩ : ∃ A, A = m / M := ⟨_, rfl⟩
  obtain ⟨low, hlow⟩ : ∃ l, l = m % M := ⟨_, rfl⟩
  rw [← hA] at haa pm pA
  rw [← hlow] at pm pl
  have HA := Lib.hid ha
  have HB := Lib.hid hbn
  have HAA := Lib.hid haa
  have HF := Lib.hid hf'
  have HM := Lib.hid hM
  have HP := Lib.hid (And.intro pm (And.intro pl (And.intro pA (And.intro hn1 (And.intro hn2 hnp)))))
  have HE := Lib.hid (And.intro hA hlow)
  have HMM := Lib.hid hMM
  have t1 : decide (2 * h < cut) = false := decide_eq_false (by omega)
  have t2 : decide (2 * (h : Int) < (cut : Int)) = false := decide_eq_false (by omega)
  have e2 : 2 * (h : Int) / 2 = (h : Int) := by omega
  obtain ⟨a, ca, rfl, -⟩ := ha.form
  obtain ⟨b, cb, rfl, -⟩ := hbn.form
  clear ha hbn haa hf hf' hM pm pl pA hn1 hn2 hnp hm hMM hMp hA hlow hb0 hc
  go_enter Tryz.func279, Tryz.ntmps279
  go_wp2_with fail
  go_region_held3 (fun w' => w'.cell? ⟨T, 0, none⟩ = some (.func (.func 279) #[] #[.pointer (some ⟨C, 0, none⟩), .pointer (some ⟨T, 0, none⟩)]))
    (first
      | go_keep
      | assumption)
    (first
      | (go_at_call 267; refine HAA.out.mono ?_; rintro e w' ⟨⟨vA, rfl, hvA⟩, rfl⟩)
      | (go_at_call 280; refine (threeByTwo_any p vA _ A n h C T w0.drew HPP.out hvA (show AtP p w0.drew _ (Nl.limbs n) from HB.out) hh2 h1 HP.out.2.2.2.1 HP.out.2.2.2.2.1 (by rw [← HM.out]; exact HP.out.2.2.1) (HF.out.below (Below.drew (Below.refl _ _)))).mono ?_; rintro e w1 ⟨⟨vq1, vr1, rfl, hq1, hr1⟩, hb1⟩; have hT1 := (hb1.cell (p := ⟨T, 0, none⟩) hTl).trans hT))
  have hb01 : Below w0.heap.size w0 w1 := Below.trans (b := w0.drew) (Below.drew (Below.refl _ _)) hb1
  have B1 := Lib.hid hb01
  have HQ1 := Lib.hid (And.intro hq1 hr1)
  have hbm := below_num p _ m h w1.drew (show AtP p w1.drew _ (Nl.limbs m) from HA.out.below (Below.drew hb01)) (by omega)
  rw [← HM.out, ← HE.out.2] at hbm
  have HBM := Lib.hid hbm
  have hTl1 : T < w1.heap.size := Nat.lt_of_lt_of_le hTl hb01.size
  have lenl : (Nl.limbs low).length ≤ h := Nl.limbs_lt (by rw [← HM.out]; exact HP.out.2.1)
  have hrb : A % n < n := Nat.mod_lt _ HP.out.2.2.2.2.2
  have lenr : (Nl.limbs (A % n)).length ≤ 2 * h := Nl.limbs_lt (Nat.lt_trans hrb HP.out.2.2.2.1)
  have hx : low + M * (A % n) < n * M := by
    have h5 : M * (A % n + 1) ≤ M * n := Nat.mul_le_mul_left M hrb
    rw [Nat.mul_add, Nat.mul_one, Nat.mul_comm M n] at h5
    have h6 := HP.out.2.1
    omega
  have HX := Lib.hid hx
  clear hb1 hq1 hr1 hbm hT hrb hx HAA
  go_wp2_with fail
  go_region_held3 (fun w' => w'.cell? ⟨T, 0, none⟩ = some (.func (.func 279) #[] #[.pointer (some ⟨C, 0, none⟩), .pointer (some ⟨T, 0, none⟩)]))
    (first
      | go_keep
      | assumption)
    (first
      | (go_at_call 282; refine HBM.out.mono ?_; rintro e w' ⟨⟨vl, rfl, hvl⟩, rfl⟩)
      | (go_at_call 281; refine (joined_in p vr1 vl (A % n) low h w1.drew (fun b hb => HPP.out b (Nat.le_trans hb01.size hb)) (show AtP p w1.drew _ _ from HQ1.out.2) hvl (by omega) (by omega) lenl).mono ?_; rintro e w2 ⟨⟨vj, rfl, hvj⟩, hb2⟩; have hT2 := (hb2.cell (p := ⟨T, 0, none⟩) hTl1).trans hT1)
      | (go_at_call 280; refine (threeByTwo_any p vj _ (low + M * (A % n)) n h C T w2 (fun b hb => HPP.out b (Nat.le_trans hb01.size (Nat.le_trans hb2.size hb))) (by rw [HM.out]; exact hvj) (AtP.below (show AtP p w1.drew _ (Nl.limbs n) from HB.out.below (Below.drew hb01)) hb2) hh2 h1 HP.out.2.2.2.1 HP.out.2.2.2.2.1 (by rw [← HM.out]; exact HX.out) (HF.out.below (hb01.trans (Below.trans (b := w1.drew) (Below.drew (Below.refl _ _)) (hb2.mono hb01.size))))).mono ?_; rintro e w3 ⟨⟨vq0, vr0, rfl, hq0, hr0⟩, hb3⟩; have hT3 := (hb3.cell (p := ⟨T, 0, none⟩) (Nat.lt_of_lt_of_le hTl1 hb2.size)).trans hT2))
  have hb12 : Below w1.heap.size w1 w2 := Below.trans (b := w1.drew) (Below.drew (Below.refl _ _)) hb2
  have hb13 : Below w1.heap.size w1 w3 := hb12.trans (hb3.mono hb12.size)
  have B3 := Lib.hid (hb01.trans (hb13.mono hb01.size))
  have HQ0 := Lib.hid (And.intro hq0 hr0)
  have HQ13 := Lib.hid (HQ1.out.1.below hb13)
  have hq0M : (low + M * (A % n)) / n < 4294967296 ^ h := by rw [← HM.out]; exact Nat.div_lt_of_lt_mul HX.out
  have hq1M : A / n < 4294967296 ^ h := by rw [← HM.out]; exact Nat.div_lt_of_lt_mul HP.out.2.2.1
  have HJ := Lib.hid (joined_any vq1 vq0 (A / n) ((low + M * (A % n)) / n) h w3 HQ13.out hq0 (by have := Nl.limbs_lt hq1M; omega) (by omega) (Nl.limbs_lt hq0M))
  have HEND := Lib.hid (two_end (m := m) (b := n) (A := A) (low := low) (M := M) (x := low + M * (A % n)) (by have := HP.out.1; rw [Nat.mul_comm]; exact this.symm) rfl rfl rfl rfl rfl HP.out.2.2.2.2.2)
  clear hb12 hb13 hb2 hb3 hq0 hr0 hvj hvl hT1 hT2 hT3 hq0M hq1M hb01 HBM
  go_wp2_with fail
  refine HJ.out.mono ?_
  rintro e w4 ⟨⟨vq, rfl, hq⟩, hb4⟩
  rw [← HM.out, HEND.out.1] at hq
  have HQ := Lib.hid hq
  have HB4 := Lib.hid hb4
  clear hq hb4 HJ
  go_wp2_with fail
  go_ret2
  refine ⟨⟨_, _, rfl, HQ.out, ?_⟩, B3.out.trans (HB4.out.mono B3.out.size)⟩
  rw [← HEND.out.2]
  exact HQ0.out.2.below HB4.out
theorem halving_any {p : Nat → Prop} {C T cut s : Nat} {w : World} (hp : ∀ b, w.heap.size ≤ b → p b) (hcut2 : 2 ≤ cut) (hcut : cut ≤ 1000000) (hc : TwoCells C T cut w) (hs0 : 0 < s) (hs : s < cut) : ∀ j, s * 2 ^ j ≤ 20000 → TwoOk p C T (s * 2 ^ j) w := by
  intro j
  induction j with
  | zero =>
    intro hb
    rw [Nat.pow_zero, Nat.mul_one] at hb ⊢
    exact two_small hp hcut hc hs hb
  | succ j ih =>
    intro hb
    rw [show s * 2 ^ (j + 1) = 2 * (s * 2 ^ j) by rw [Nat.pow_succ, ← Nat.mul_assoc, Nat.mul_comm]] at hb ⊢
    by_cases hlt : 2 * (s * 2 ^ j) < cut
    · exact two_small hp hcut hc hlt hb
    · exact two_step hp hc (by omega) (Nat.mul_pos hs0 (Nat.two_pow_pos j)) (by omega) (ih (by omega))
end Go.Proofs.YtodjncohhgknlaaGreat

namespace Go.Proofs.YtodjncohhgknlaaGreat
open Go.RowKit

/-- a division by d of what has at most S words more, by the closure -/
def PartOk (p : Nat → Prop) (p1 p2 p3 : Value) (d S : Nat) (w : World) : Prop := ∀ (va : Value) (m : Nat) (w' : World), Below w.heap.size w w' → AtP p w' va (Nl.limbs m) → m < d * 4294967296 ^ S →
    Calls Tryz.prog 284 #[va, p1, p2, p3] w' fun e w'' => DivIn p w' w'' e m d
theorem PartOk.below {p : Nat → Prop} {p1 p2 p3 : Value} {d S : Nat} {w w1 : World} (k : PartOk p p1 p2 p3 d S w) (hb : Below w.heap.size w w1) : PartOk p p1 p2 p3 d S w1 :=
  fun va m w' h1 => k va m w' (hb.trans (h1.mono hb.size))

theorem part_two {p : Nat → Prop} {C T Bx Sx d S : Nat} {vb : Value} {w : World} (hT : w.cell? ⟨T, 0, none⟩ = some (.func (.func 279) #[] #[.pointer (some ⟨C, 0, none⟩), .pointer (some ⟨T, 0, none⟩)])) (hTl : T < w.heap.size)
    (hB : w.cell? ⟨Bx, 0, none⟩ = some vb) (hBl : Bx < w.heap.size) (hS : w.cell? ⟨Sx, 0, none⟩ = some (.int .i64 S)) (hSl : Sx < w.heap.size) (hb : AtP p w vb (Nl.limbs d)) (hd1 : d < 4294967296 ^ S) (hd2 : 4294967296 ^ S ≤ 2 * d) (hf : TwoOk p C T S w) :
    PartOk p (.pointer (some ⟨T, 0, none⟩)) (.pointer (some ⟨Bx, 0, none⟩)) (.pointer (some ⟨Sx, 0, none⟩)) d S w := by
  intro va m w' hw ha hm
  have hT' := (hw.cell (p := ⟨T, 0, none⟩) hTl).trans hT
  have hB' := (hw.cell (p := ⟨Bx, 0, none⟩) hBl).trans hB
  have hS' := (hw.cell (p := ⟨Sx, 0, none⟩) hSl).trans hS
  have HC := Lib.hid (hf va vb m d w' hw ha (hb.below hw) hd1 hd2 hm)
  obtain ⟨a, ca, rfl, -⟩ := ha.form
  obtain ⟨b, cb, rfl, -⟩ := hb.form
  clear hw ha hm hT hB hS hf hb hd1 hd2
  go_enter Tryz.func284, Tryz.ntmps284
  go_wp2_with fail
  refine HC.out.mono ?_
  rintro e w1 ⟨⟨v, u, rfl, hv, hu⟩, hb1⟩
  have HV := Lib.hid (And.intro hv (And.intro hu hb1))
  clear hv hu hb1
  go_wp2_with fail
  go_ret2
  exact ⟨⟨v, u, rfl, HV.out.1, HV.out.2.1⟩, HV.out.2.2⟩

theorem parts_len {L S : Nat} (hS : 1 ≤ S) : L ≤ (L + S - 1) / S * S := by
  have h1 := Nat.div_add_mod (L + S - 1) S
  have h2 := Nat.mod_lt (L + S - 1) (show 0 < S by omega)
  rw [Nat.mul_comm] at h1
  omega
theorem parts_step {Q : List Nat} {S p x N : Nat} (hl : Q.length = N) (hp : p + S ≤ N) (hz : Q.take (p + S) = Nl.zeros (p + S)) (hs : Nl.Small Q) (hx : (Nl.limbs x).length ≤ S) :
    (splice Q p (Nl.limbs x)).length = N ∧ Nl.Small (splice Q p (Nl.limbs x)) ∧ (splice Q p (Nl.limbs x)).take p = Nl.zeros p ∧ Nl.val ((splice Q p (Nl.limbs x)).drop p) = x + 4294967296 ^ S * Nl.val (Q.drop (p + S)) := by
  have e : Q = Nl.zeros p ++ (Nl.zeros S ++ Q.drop (p + S)) := by
    conv => lhs; rw [← List.take_append_drop (p + S) Q, hz]
    rw [← List.append_assoc]
    congr 1
    simp [Nl.zeros]
  have hsp : splice Q p (Nl.limbs x) = Nl.zeros p ++ ((Nl.limbs x ++ Nl.zeros (S - (Nl.limbs x).length)) ++ Q.drop (p + S)) := by
    conv => lhs; rw [e]
    obtain ⟨D, hD⟩ : ∃ D, D = Q.drop (p + S) := ⟨_, rfl⟩
    rw [← hD]
    have h1 : (Nl.zeros p ++ (Nl.zeros S ++ D)).take p = Nl.zeros p := List.take_left' (Nl.zeros_length p)
    have h2 : (Nl.zeros p ++ (Nl.zeros S ++ D)).drop (p + (Nl.limbs x).length) = Nl.zeros (S - (Nl.limbs x).length) ++ D := by
      rw [← List.drop_drop, List.drop_left' (Nl.zeros_length p), List.drop_append_of_le_length (by rw [Nl.zeros_length]; exact hx), zeros_drop]
    rw [splice, h1, h2]
    simp only [List.append_assoc]
  have hll : (splice Q p (Nl.limbs x)).length = N := by rw [length_splice' _ _ _ (by omega), hl]
  refine ⟨hll, ?_, ?_, ?_⟩
  · rw [hsp]
    exact Nl.small_append.2 ⟨Nl.small_replicate _, Nl.small_append.2 ⟨Nl.small_append.2 ⟨Nl.limbs_small _, Nl.small_replicate _⟩, hs.drop _⟩⟩
  · rw [hsp]
    exact List.take_left' (Nl.zeros_length p)
  · rw [hsp, List.drop_left' (Nl.zeros_length p), Nl.val_append, Nl.val_append, Nl.val_replicate, Nl.val_limbs, Nat.mul_zero, Nat.add_zero, List.length_append, Nl.zeros_length, show (Nl.limbs x).length + (S - (Nl.limbs x).length) = S by omega]
/-- 'copy' of words; what else has not changed -/
theorem wp_copy_only {w : World} {ops : Array Oper} {rest : List Oper} {o : Oper} {a : Act} {Q : Exit → Act → World → Prop} (hgd : o.guard = none) (d s : Operand) (dT sT : TypeId)
    (ho : o.op = .call { callee := .builtin .copy, args := #[d, s], argTypes := #[dT, sT] }) (hu : Tryz.prog.underlying dT = some (.slice 77))
    (dp sp : Option Addr) (dLen dCap sLen sCap : Nat) (hd : a.eval d = .slice dp dLen dCap) (hs : a.eval s = .slice sp sLen sCap)
    (g off : Nat) (L xs : List Nat) (hg : Row w g L) (hn : xs.length = Nat.min sLen dLen)
    (hpos : 0 < xs.length → dp = some ⟨g, off, none⟩ ∧ ∃ b f, sp = some ⟨b, f, none⟩ ∧ Cells w b f xs)
    (hfit : off + xs.length ≤ L.length)
    (h : ∀ w', Hid (Row w' g (splice L off xs)) → Hid (Only g w w') → wpList Tryz.prog ops Q rest (a.put o.dst (goInt (vals xs).length)) w') :
    wpList Tryz.prog ops Q (o :: rest) a w := by
  by_cases h0 : xs.length = 0
  · obtain rfl : xs = [] := List.eq_nil_of_length_eq_zero h0
    refine wpList_copy_nothing hgd d s dT sT ho 77 hu sizeWord dp sp dLen dCap sLen sCap hd hs (by simpa using hn.symm) ?_
    exact h w (show Row w g _ by simpa [splice] using hg) (Only.refl g w)
  · obtain ⟨rfl, b, f, rfl, hc⟩ := hpos (by omega)
    refine wpList_copy_own hgd d s dT sT ho 77 hu sizeWord g off dLen dCap ⟨b, f, none⟩ sLen sCap hd hs (vals L).toArray 77 hg (vals xs) (by rw [vals_length]; exact hn) ?_ (by simpa [vals_length] using hfit) ?_ ?_
    · intro j v hj
      have hjl : j < xs.length := by
        have := (List.getElem?_eq_some_iff.1 hj).1
        rwa [vals_length] at this
      rw [vals_get hjl] at hj
      cases hj
      have := hc j hjl
      unfold Addr.add
      split
      · next h0 => subst h0; exact this
      · exact this
    · intro v hv
      obtain ⟨x, _, rfl⟩ := List.mem_map.1 hv
      rfl
    · have h1 := setRow_heap w g (vals L).toArray ((vals L).take off ++ (vals xs ++ (vals L).drop (off + (vals xs).length))).toArray 77 _ hg
      refine h _ ?_ ⟨rfl, rfl, rfl, by simp [World.setRow], fun k _ hne => setRow_other w g k _ (fun e => hne (by rw [e]))⟩
      have h2 := splice_map L xs off
      rw [splice] at h2
      rw [Hid, Row, ← h2]
      exact h1
end Go.Proofs.YtodjncohhgknlaaGreat

namespace Go.Proofs.YtodjncohhgknlaaGreat
open Go.RowKit

theorem AtP.kept_only {w w' : World} {v : Value} {xs : List Nat} {g : Nat} (h : AtP (· ≠ g) w v xs) (hg : Only g w w') : AtP (· ≠ g) w' v xs := h.only hg fun _ h => h
set_option maxRecDepth 10000 in
set_option maxHeartbeats 2000000 in
theorem overParts_any (p1 p2 p3 va : Value) (m d S : Nat) (w : World) (ha : IsN w va m) (hla : (Nl.limbs m).length ≤ 20000) (hS : 1 ≤ S) (hS2 : S ≤ 20000) (hd0 : 0 < d) (hd : d < 4294967296 ^ S)
    (hf : ∀ g w', Below w.heap.size w w' → w.heap.size ≤ g → g < w'.heap.size → PartOk (· ≠ g) p1 p2 p3 d S w') :
    Calls Tryz.prog 283 #[va, .int .i64 S, .func (.func 284) #[] #[p1, p2, p3]] w fun e w' => DivOk w w' e m d := by
  have hal := ha.mono (q := (· < w.heap.size)) fun _ h _ => h
  obtain ⟨L, hL⟩ : ∃ L, (Nl.limbs m).length = L := ⟨_, rfl⟩
  obtain ⟨N, hN⟩ : ∃ N, N = (L + S - 1) / S := ⟨_, rfl⟩
  obtain ⟨PS, hPS⟩ : ∃ x, x = N * S := ⟨_, rfl⟩
  have hLP : L ≤ PS := by rw [hPS, hN]; exact parts_len hS
  have hPSb : PS ≤ L + S - 1 := by rw [hPS, hN]; exact Nat.div_mul_le_self _ _
  have q1 : ((L : Int) + (S : Int) - 1) / (S : Int) = (N : Int) := by
    rw [show (L : Int) + (S : Int) - 1 = ((L + S - 1 : Nat) : Int) by omega, hN]; rfl
  have q2 : (N : Int) * (S : Int) = (PS : Int) := by rw [hPS, Int.natCast_mul]
  have q3 : (S : Int) * ((N : Int) - 1) = (PS : Int) - (S : Int) := by rw [Int.mul_sub, Int.mul_one, Int.mul_comm, q2]
  have hNb : N ≤ PS := by rw [hPS]; exact Nat.le_mul_of_pos_right N hS
  have hSz : ¬ ((S : Int) = 0) := by omega
  have hmk := make_words 191 Tryz.underlying191 w (PS : Int) PS rfl (by omega)
  have hm0 : m / 4294967296 ^ PS = 0 := by
    apply Nat.div_eq_of_lt
    refine Nat.lt_of_lt_of_le (Nl.lt_limbs m) ?_
    rw [hL]
    exact Nl.pow_le hLP
  have HK := Lib.hid (show ∃ k, PS = k * S from ⟨N, hPS⟩)
  have HL := Lib.hid hL
  have HA := Lib.hid hal
  have HF := Lib.hid hf
  have HD := Lib.hid (And.intro hd0 hd)
  have HM0 := Lib.hid hm0
  obtain ⟨a, ca, rfl, -⟩ := ha.form
  rw [hL] at HA ⊢
  have hLb : L ≤ 20000 := by omega
  clear ha hal hL hN hPS hf hd0 hd hm0 hla
  go_enter Tryz.func283, Tryz.ntmps283
  go_wp2_with fail
  clear hmk q1 q2 q3 hSz hNb
  obtain ⟨gQ, hgQ⟩ : ∃ g, g = w.heap.size := ⟨_, rfl⟩
  rw [← hgQ]
  obtain ⟨w1, hw1⟩ : ∃ w1, w1 = w.alloc (.cells (vals (Nl.zeros PS)).toArray 77) := ⟨_, rfl⟩
  rw [← hw1]
  have b01 : Below w.heap.size w w1 := by rw [hw1]; exact (Below.refl _ _).alloc (Nat.le_refl _) _
  have Q1 := Lib.hid (show Row w1 gQ (Nl.zeros PS) by rw [hw1, hgQ]; exact row_new w _)
  have B1 := Lib.hid b01
  have HA1 := Lib.hid (show AtP (· ≠ gQ) w1 (.slice a L ca) (Nl.limbs m) from (HA.out.mono fun b _ h => (by rw [hgQ]; exact Nat.ne_of_lt h : b ≠ gQ)).below b01)
  have HG := Lib.hid hgQ
  clear hw1 b01 HA hgQ
  go_loopw [7, 9] (fun r i wr => ∃ (p R : Nat) (Q : List Nat), Hid (∃ k, p = k * S) ∧ p ≤ PS ∧ i = .int .i64 ((p : Int) - (S : Int)) ∧ Hid (AtP (· ≠ gQ) wr r (Nl.limbs R)) ∧ Hid (Row wr gQ Q) ∧ Hid (w1.grownBy wr (some gQ)) ∧ Hid (Q.length = PS) ∧ Hid (Nl.Small Q) ∧
      Hid (Q.take p = Nl.zeros p) ∧ Hid (Nl.val (Q.drop p) = m / 4294967296 ^ p / d) ∧ Hid (R = m / 4294967296 ^ p % d)) (fun _ i _ => (intOf i + S).toNat)
  case atStart =>
    refine ⟨PS, 0, _, HK.out, Nat.le_refl _, rfl, .inl ⟨rfl, Nl.limbs_zero⟩, Q1.out, Only.refl gQ w1, Nl.zeros_length _, Nl.small_replicate _, List.take_of_length_le (by rw [Nl.zeros_length]; exact Nat.le_refl _), ?_, ?_⟩
    · rw [Hid, HM0.out, Nat.zero_div, zeros_drop', Nl.val_replicate]
    · rw [Hid, HM0.out, Nat.zero_mod]
  case round =>
    obtain ⟨p, R, Q, hk, hpb, rfl, hr, hq, hon, hlQ, hsQ, htz, hvq, hvr⟩ := hrel
    have hbel : Below w.heap.size w wr := below_of_only B1.out hon.out (by rw [HG.out]; exact Nat.le_refl _) B1.out.size
    have HBEL := Lib.hid hbel
    clear hbel
    by_cases hlt : p < S
    · have hp0 : p = 0 := by
        obtain ⟨k, hkk⟩ := hk.out
        cases k with
        | zero => rw [hkk, Nat.zero_mul]
        | succ k => rw [Nat.add_mul, Nat.one_mul] at hkk; omega
      subst hp0
      have h1 := hvq.out
      have h2 := hvr.out
      rw [Nat.pow_zero, Nat.div_one, List.drop_zero] at h1
      rw [Nat.pow_zero, Nat.div_one] at h2
      have H1 := Lib.hid (And.intro h1 h2)
      clear h1 h2
      go_wp2_with fail
      refine (trimmed_row gQ _ Q wr hlQ.out hq.out (by omega)).mono ?_
      rintro e w' ⟨rfl, rfl⟩
      go_wp2_with fail
      go_ret2
      refine ⟨⟨_, _, rfl, (Own.num (base := 0) (k := m / d) (Nat.zero_le _) hq.out hlQ.out (by omega) hsQ.out H1.out.1).at.at, ?_⟩, HBEL.out⟩
      rw [← H1.out.2]
      exact hr.out.at
    · obtain ⟨t, ht⟩ : ∃ t, p = t + S := ⟨p - S, by omega⟩
      subst ht
      rw [show ((t + S : Nat) : Int) - (S : Int) = (t : Int) by omega]
      obtain ⟨A, hA⟩ : ∃ A, A = m / 4294967296 ^ (t + S) := ⟨_, rfl⟩
      obtain ⟨low, hlow⟩ : ∃ l, l = m / 4294967296 ^ t % 4294967296 ^ S := ⟨_, rfl⟩
      have hm' : m / 4294967296 ^ t = A * 4294967296 ^ S + low := by
        rw [hA, hlow, Nat.pow_add, ← Nat.div_div_eq_div_mul, Nat.mul_comm]
        exact (Nat.div_add_mod _ _).symm
      have hRd : R < d := by rw [hvr.out]; exact Nat.mod_lt _ HD.out.1
      have hlowS : low < 4294967296 ^ S := by rw [hlow]; exact Nat.mod_lt _ (Nat.pow_pos (by decide))
      have hx : low + 4294967296 ^ S * R < d * 4294967296 ^ S := by
        have h5 : 4294967296 ^ S * (R + 1) ≤ 4294967296 ^ S * d := Nat.mul_le_mul_left _ hRd
        rw [Nat.mul_add, Nat.mul_one, Nat.mul_comm (4294967296 ^ S) d] at h5
        omega
      have hab := above_num (· ≠ gQ) _ m t wr (HA1.out.kept_only hon.out) (by omega)
      have HAB := Lib.hid hab
      have HX := Lib.hid (And.intro hm' (And.intro hx (And.intro hlowS hRd)))
      have HLOW := Lib.hid (And.intro hlow hA)
      clear hab hm' hx hRd hlowS hlow hA
      go_wp2_with fail
      refine HAB.out.mono ?_
      rintro e w' ⟨⟨v1, rfl, hv1⟩, rfl⟩
      have hbw := below_num (· ≠ gQ) v1 _ S wr hv1 (by omega)
      rw [← HLOW.out.1] at hbw
      have HBW := Lib.hid hbw
      clear hv1 hbw HAB
      go_wp2_with fail
      refine HBW.out.mono ?_
      rintro e w' ⟨⟨v2, rfl, hv2⟩, rfl⟩
      have HJ := Lib.hid (joined_in (· ≠ gQ) _ v2 R low S wr (fun b hb => by have := hq.out.lt; omega) hr.out hv2 (by have := Nl.limbs_lt (Nat.lt_trans HX.out.2.2.2 HD.out.2); omega) (by omega) (Nl.limbs_lt HX.out.2.2.1))
      clear hv2 HBW
      go_wp2_with fail
      refine HJ.out.mono ?_
      rintro e w2 ⟨⟨v3, rfl, hv3⟩, hb2⟩
      have B2 := Lib.hid (HBEL.out.trans (hb2.mono HBEL.out.size))
      have hq2 := hq.out.below hb2 hq.out.lt
      have HC := Lib.hid (HF.out gQ w2 B2.out (by have := HG.out; omega) hq2.lt v3 _ w2 (Below.refl _ _) hv3 HX.out.2.1)
      have HQ2 := Lib.hid hq2
      have HB2 := Lib.hid hb2
      clear hv3 hb2 hq2 HJ
      go_wp2_with fail
      refine HC.out.mono ?_
      rintro e w3 ⟨⟨vx, vr, rfl, hx3, hr3⟩, hb3⟩
      obtain ⟨x, hxe⟩ : ∃ x, x = (low + 4294967296 ^ S * R) / d := ⟨_, rfl⟩
      rw [← hxe] at hx3
      have hxS : x < 4294967296 ^ S := by rw [hxe]; exact Nat.div_lt_of_lt_mul HX.out.2.1
      have hxl := Nl.limbs_lt hxS
      have HX3 := Lib.hid hx3
      have HR3 := Lib.hid hr3
      have HXE := Lib.hid hxe
      have HQ3 := Lib.hid (HQ2.out.below hb3 HQ2.out.lt)
      have HO3 := Lib.hid (show w1.grownBy w3 (some gQ) from grown_trans hon.out (grown_of_below (HB2.out.trans (hb3.mono HB2.out.size))))
      obtain ⟨px, cx, rfl, -⟩ := hx3.form
      clear hx3 hr3 hb3 hxe hxS HC HB2
      go_wp2_with (with_reducible refine wp_copy_only rfl (.tmp 46) (.tmp 47) 191 191 rfl Tryz.underlying191 _ _ _ _ _ _ rfl rfl gQ t Q (Nl.limbs x) HQ3.out ?_ ?_ ?_ ?_)
      · exact (Nat.min_eq_left (by omega)).symm
      · intro h0
        obtain ⟨b', f', h1, -, h2⟩ := HX3.out.cells h0
        exact ⟨b', f', h1, h2⟩
      · rw [hlQ.out]; omega
      intro w4 hr4 ho4
      have HST := Lib.hid (parts_step (x := x) (S := S) hlQ.out hpb htz.out hsQ.out hxl)
      have HEND := Lib.hid (two_end (m := m / 4294967296 ^ t) (b := d) (A := A) (low := low) (M := 4294967296 ^ S) (x := low + 4294967296 ^ S * R) HX.out.1 rfl rfl (by rw [hvr.out, HLOW.out.2]) rfl rfl HD.out.1)
      go_wp2_with fail
      go_roundw
      case rel =>
        refine ⟨t, _, splice Q t (Nl.limbs x), ?_, by omega, by go_num, HR3.out.kept_only ho4.out, hr4.out, grown_trans HO3.out ho4.out, HST.out.1, HST.out.2.1, HST.out.2.2.1, ?_, HEND.out.2⟩
        · obtain ⟨k, hkk⟩ := hk.out
          cases k with
          | zero => rw [Nat.zero_mul] at hkk; omega
          | succ k => exact ⟨k, by rw [Nat.add_mul, Nat.one_mul] at hkk; omega⟩
        · rw [Hid, HST.out.2.2.2, hvq.out, ← HEND.out.1, ← HLOW.out.2, HXE.out]
      case measure => simp [intOf] <;> omega
end Go.Proofs.YtodjncohhgknlaaGreat

namespace Go.Proofs.YtodjncohhgknlaaGreat
open Go.RowKit

/-- how often a length has been halved, and what is left of it -/
def Halved (l s k : Nat) : Prop := l ≤ s * 2 ^ k ∧ (s - 1) * 2 ^ k < l ∧ 2 ^ k < 2 * l ∧ 1 ≤ s
theorem halved_start {l : Nat} (h : 2 ≤ l) : Halved l l 0 := by
  refine ⟨by simp, ?_, by simp; omega, by omega⟩
  simp; omega
theorem halved_step {l s k : Nat} (h : Halved l s k) (hs : 2 ≤ s) : Halved l ((s + 1) / 2) (k + 1) := by
  obtain ⟨h1, h2, h3, h4⟩ := h
  obtain ⟨t, ht⟩ : ∃ t, t = (s + 1) / 2 := ⟨_, rfl⟩
  rw [← ht]
  have e1 : s ≤ 2 * t := by omega
  have e2 : 2 * (t - 1) ≤ s - 1 := by omega
  have f1 : s * 2 ^ k ≤ 2 * t * 2 ^ k := Nat.mul_le_mul_right _ e1
  have f2 : 2 * (t - 1) * 2 ^ k ≤ (s - 1) * 2 ^ k := Nat.mul_le_mul_right _ e2
  have f3 : 1 * 2 ^ k ≤ (s - 1) * 2 ^ k := Nat.mul_le_mul_right _ (by omega)
  have g1 : t * 2 ^ (k + 1) = 2 * t * 2 ^ k := by rw [Nat.pow_succ, Nat.mul_comm (2 ^ k) 2, ← Nat.mul_assoc, Nat.mul_comm t 2]
  have g2 : (t - 1) * 2 ^ (k + 1) = 2 * (t - 1) * 2 ^ k := by rw [Nat.pow_succ, Nat.mul_comm (2 ^ k) 2, ← Nat.mul_assoc, Nat.mul_comm (t - 1) 2]
  have g3 : 2 ^ (k + 1) = 2 * 2 ^ k := by rw [Nat.pow_succ, Nat.mul_comm]
  exact ⟨by omega, by omega, by omega, by omega⟩
theorem halved_end {l s k : Nat} (h : Halved l s k) : l ≤ s * 2 ^ k ∧ s * 2 ^ k ≤ 3 * l ∧ 2 ^ k < 2 * l := by
  obtain ⟨h1, h2, h3, h4⟩ := h
  obtain ⟨t, rfl⟩ : ∃ t, s = t + 1 := ⟨s - 1, by omega⟩
  rw [Nat.add_sub_cancel] at h2
  refine ⟨h1, ?_, h3⟩
  rw [Nat.add_mul, Nat.one_mul]
  omega
theorem halved_small {l s k : Nat} (h : Halved l s k) (hl : l ≤ 4000) : k ≤ 12 := by
  have h3 := h.2.2.1
  apply Classical.byContradiction
  intro hc
  have : 2 ^ 13 ≤ 2 ^ k := Nat.pow_le_pow_right (by decide) (by omega)
  omega

/-- a divisor that is shifted until it has no spare bits -/
theorem blocks_divisor {n S : Nat} (h0 : n ≠ 0) (hS : (Nl.limbs n).length ≤ S) : ∃ s, s = 32 * S - nbits n ∧ nbits n ≤ 32 * S ∧ n * 2 ^ s < 4294967296 ^ S ∧ 4294967296 ^ S ≤ 2 * (n * 2 ^ s) := by
  have hB : (4294967296 : Nat) ^ S = 2 ^ (32 * S) := by rw [show (4294967296 : Nat) = 2 ^ 32 from rfl, ← Nat.pow_mul]
  have hb : nbits n ≤ 32 * S := by
    obtain ⟨k, x, hk, -, hx0, hx, hnb⟩ := top_word h0
    have := Lib.bitLen_le x 32 (by omega) (by omega)
    omega
  have hp := nbits_pos h0
  have h1 := lt_nbits n
  have h2 := nbits_le h0
  obtain ⟨c, hc⟩ : ∃ c, nbits n = c + 1 := ⟨nbits n - 1, by omega⟩
  rw [hc, Nat.add_sub_cancel] at h2
  refine ⟨_, rfl, hb, ?_, ?_⟩
  · rw [hB]
    have : n * 2 ^ (32 * S - nbits n) < 2 ^ nbits n * 2 ^ (32 * S - nbits n) := Nat.mul_lt_mul_of_pos_right h1 (Nat.two_pow_pos _)
    rwa [← Nat.pow_add, show nbits n + (32 * S - nbits n) = 32 * S by omega] at this
  · rw [hB]
    have : 2 ^ c * 2 ^ (32 * S - nbits n) ≤ n * 2 ^ (32 * S - nbits n) := Nat.mul_le_mul_right _ h2
    rw [← Nat.pow_add] at this
    have e : 2 ^ (32 * S) = 2 * 2 ^ (c + (32 * S - nbits n)) := by
      rw [← Nat.pow_succ', show (c + (32 * S - nbits n)).succ = 32 * S by omega]
    rw [e]
    exact Nat.mul_le_mul_left 2 this
theorem blocks_back {m n s : Nat} (_hn : 0 < n) : m * 2 ^ s / (n * 2 ^ s) = m / n ∧ m * 2 ^ s % (n * 2 ^ s) / 2 ^ s = m % n := by
  refine ⟨Nat.mul_div_mul_right _ _ (Nat.two_pow_pos s), ?_⟩
  rw [Nat.mul_mod_mul_right, Nat.mul_div_cancel _ (Nat.two_pow_pos s)]

/-- the variables of overBlocks in memory -/
structure BMem (w wr : World) (vb : Value) (cut s : Nat) : Prop where
  bel : Below w.heap.size w wr
  size : w.heap.size + 3 ≤ wr.heap.size
  hb : wr.heap[w.heap.size]? = some (.cells #[vb] 191 (0, 0))
  hc : wr.heap[w.heap.size + 1]? = some (.cells #[.int .i64 cut] 3 (0, 0))
  hs : wr.heap[w.heap.size + 2]? = some (.cells #[.int .i64 s] 3 (0, 0))
theorem BMem.set {w wr : World} {vb : Value} {cut s : Nat} (h : BMem w wr vb cut s) (s' : Nat) : BMem w (wr.setCell ⟨w.heap.size + 2, 0, none⟩ (.int .i64 s')) vb cut s' :=
  ⟨h.bel.setCell (show w.heap.size ≤ w.heap.size + 2 by omega) _, by simpa [World.setCell] using h.size, (Below.heap_setCell _ ⟨w.heap.size + 2, 0, none⟩ _ w.heap.size (by simp)).trans h.hb,
    (Below.heap_setCell _ ⟨w.heap.size + 2, 0, none⟩ _ (w.heap.size + 1) (by simp)).trans h.hc, one_setCell h.hs⟩
theorem BMem.setB {w wr : World} {vb vb' : Value} {cut s : Nat} (h : BMem w wr vb cut s) : BMem w (wr.setCell ⟨w.heap.size, 0, none⟩ vb') vb' cut s :=
  ⟨h.bel.setCell (show w.heap.size ≤ w.heap.size by omega) _, by simpa [World.setCell] using h.size, one_setCell h.hb,
    (Below.heap_setCell _ ⟨w.heap.size, 0, none⟩ _ (w.heap.size + 1) (by simp)).trans h.hc, (Below.heap_setCell _ ⟨w.heap.size, 0, none⟩ _ (w.heap.size + 2) (by simp)).trans h.hs⟩
theorem BMem.below {w wr wr' : World} {vb : Value} {cut s : Nat} (h : BMem w wr vb cut s) (hb : Below wr.heap.size wr wr') : BMem w wr' vb cut s := by
  have hs := h.size
  exact ⟨h.bel.trans (hb.mono (by omega)), Nat.le_trans h.size hb.size, (hb.block _ (by omega)).trans h.hb, (hb.block _ (by omega)).trans h.hc, (hb.block _ (by omega)).trans h.hs⟩

/-- a number that is not 0 does not lie in a variable -/
theorem AtP.apart {p : Nat → Prop} {w : World} {v u : Value} {xs : List Nat} {g : Nat} {t : TypeId} (h : AtP p w v xs) (h0 : xs ≠ []) (hg : w.heap[g]? = some (.cells #[u] t (0, 0))) (hu : ∀ k, u ≠ .int .u32 k) : AtP (fun b => p b ∧ b ≠ g) w v xs := by
  rcases h with ⟨rfl, rfl⟩ | ⟨b, off, cap, h1, h2, h3, h4, h5, h6⟩
  · exact absurd rfl h0
  · refine .inr ⟨b, off, cap, h1, ⟨h2, ?_⟩, h3, h4, h5, h6⟩
    rintro rfl
    have hl : 0 < xs.length := List.length_pos_iff.2 h0
    have h7 := h6 0 hl
    rw [Nat.add_zero, cell_of_row w b off _ _ (0, 0) hg] at h7
    cases off with
    | zero => simp at h7; exact hu _ h7
    | succ k => simp at h7

theorem shift_len {m sh A C : Nat} (hm : (Nl.limbs m).length ≤ A) (hs : sh ≤ 32 * C) : (Nl.limbs (m * 2 ^ sh)).length ≤ A + C := by
  apply Nl.limbs_lt
  have h1 : m < 4294967296 ^ A := Nat.lt_of_lt_of_le (Nl.lt_limbs m) (Nl.pow_le hm)
  have h2 : 2 ^ sh ≤ 4294967296 ^ C := by
    rw [show (4294967296 : Nat) = 2 ^ 32 from rfl, ← Nat.pow_mul]
    exact Nat.pow_le_pow_right (by decide) hs
  rw [Nat.pow_add]
  exact Nat.lt_of_lt_of_le (Nat.mul_lt_mul_of_pos_right h1 (Nat.two_pow_pos sh)) (Nat.mul_le_mul_left _ h2)
/-- the division part by part -/
theorem blocks_parts {w W6 W7 : World} {vd va : Value} {m D S T cut s k : Nat} {t : TypeId} (h6 : BMem w W6 vd cut S)
    (hT : W6.heap[T]? = some (.cells #[.func (.func 279) #[] #[.pointer (some ⟨w.heap.size + 1, 0, none⟩), .pointer (some ⟨T, 0, none⟩)]] t (0, 0))) (hv : AtP (· < T) W6 vd (Nl.limbs D))
    (hS : S = s * 2 ^ k) (hs0 : 0 < s) (hs : s < cut) (hcut : 2 ≤ cut) (hcut2 : cut ≤ 1000000) (hSb : S ≤ 20000) (hS1 : 1 ≤ S) (hD1 : D < 4294967296 ^ S) (hD2 : 4294967296 ^ S ≤ 2 * D) (hb : Below W6.heap.size W6 W7) (ha : IsN W7 va m) (hla : (Nl.limbs m).length ≤ 20000) :
    Calls Tryz.prog 283 #[va, .int .i64 S, .func (.func 284) #[] #[.pointer (some ⟨T, 0, none⟩), .pointer (some ⟨w.heap.size, 0, none⟩), .pointer (some ⟨w.heap.size + 2, 0, none⟩)]] W7 fun e w' => DivOk W7 w' e m D := by
  have hTl := lt_of_block hT
  have hsz := h6.size
  have hBp : 0 < 4294967296 ^ S := Nat.pow_pos (by decide)
  refine overParts_any _ _ _ va m D S W7 ha hla hS1 hSb (by omega) hD1 ?_
  intro g w' hb7 hg1 hg2
  have hb6 : Below W6.heap.size W6 w' := hb.trans (hb7.mono hb.size)
  have h7 := h6.below hb6
  have hT7 := (hb6.block T hTl).trans hT
  have hgT : T < g := by have := hb.size; omega
  refine part_two (cell_of_one hT7) (lt_of_block hT7) (cell_of_one h7.hb) (lt_of_block h7.hb) (cell_of_one h7.hs) (lt_of_block h7.hs) ((hv.below hb6).mono fun b _ h => by omega) hD1 hD2 ?_
  rw [hS]
  exact halving_any (fun b h => by omega) hcut hcut2 ⟨cell_of_one h7.hc, cell_of_one hT7, lt_of_block h7.hc, lt_of_block hT7⟩ hs0 hs k (by omega)

set_option maxRecDepth 10000 in
set_option maxHeartbeats 4000000 in
theorem overBlocks_long (va vb : Value) (m n cut : Nat) (w : World) (ha : IsN w va m) (hb : IsN w vb n) (hla : (Nl.limbs m).length ≤ 4000) (hlb : (Nl.limbs n).length ≤ 4000) (hcut : 2 ≤ cut) (hcl : cut ≤ (Nl.limbs n).length) (hge : n ≤ m) :
    Calls Tryz.prog 254 #[va, vb, .int .i64 cut] w fun e w' => DivOk w w' e m n := by
  have hcm : ¬ cmpI m n < 0 := by
    rcases Nat.lt_or_eq_of_le hge with h | h
    · rw [cmpI_gt h]; decide
    · rw [h, cmpI_eq]; decide
  obtain ⟨c, hc⟩ : ∃ c, cmpI (m : Int) (n : Int) = c := ⟨_, rfl⟩
  obtain ⟨W, hW⟩ : ∃ W, W = (w.alloc (.cells #[vb] 191)).alloc (.cells #[.int .i64 (cut : Int)] 3) := ⟨_, rfl⟩
  have hbW : Below w.heap.size w W := by rw [hW]; exact ((Below.refl _ _).alloc (Nat.le_refl _) _).alloc (by simp) _
  have hsW : W.heap.size = w.heap.size + 2 := by rw [hW]; simp
  have hP : W.heap[w.heap.size]? = some (.cells #[vb] 191 (0, 0)) := by rw [hW]; exact heap_alloc2_old w _ _
  have hQ : W.heap[w.heap.size + 1]? = some (.cells #[.int .i64 cut] 3 (0, 0)) := by rw [hW]; exact heap_alloc2_new w _ _
  have hca := compare_any va vb m n W (ha.below hbW) (hb.below hbW)
  rw [hc] at hca hcm
  have HA := Lib.hid (ha.below hbW)
  have HAw := Lib.hid ha
  have hbl := hb.mono (q := (· < w.heap.size)) fun _ h _ => h
  have HB := Lib.hid (hbl.below hbW)
  have HC := Lib.hid hca
  obtain ⟨a, ca, rfl, -⟩ := ha.form
  obtain ⟨b, cb, rfl, -⟩ := hb.form
  obtain ⟨l, hl⟩ : ∃ l, (Nl.limbs n).length = l := ⟨_, rfl⟩
  obtain ⟨L, hL⟩ : ∃ L, (Nl.limbs m).length = L := ⟨_, rfl⟩
  rw [hl] at hlb hcl HB hP HC hW ⊢
  rw [hL] at hla HA HAw HC ⊢
  have HL := Lib.hid (And.intro hl hL)
  have HS := Lib.hid (And.intro hbW (And.intro hsW (And.intro hP hQ)))
  have hcc : ¬ ((l : Int) < (cut : Int)) := by omega
  clear ha hb hbl hbW hsW hP hQ hca hl hL hge hc
  go_enter Tryz.func254, Tryz.ntmps254
  go_wp2_with fail
  rw [← hW]
  clear hW
  have k1 := cell_of_one HS.out.2.2.1
  have k2 := cell_of_one HS.out.2.2.2
  go_wp2_with fail
  refine HC.out.mono ?_
  rintro e w' ⟨rfl, j, rfl⟩
  obtain ⟨W1, hW1⟩ : ∃ W1, W1 = W.drewN j := ⟨_, rfl⟩
  rw [← hW1]
  have b01 : Below w.heap.size w W1 := by rw [hW1]; exact HS.out.1.trans ((below_drewN W j _).mono HS.out.1.size)
  have s1 : W1.heap.size = w.heap.size + 2 := by rw [hW1]; exact HS.out.2.1
  have p1 : W1.heap[w.heap.size]? = some (.cells #[.slice b l cb] 191 (0, 0)) := by rw [hW1]; exact HS.out.2.2.1
  have p2 : W1.heap[w.heap.size + 1]? = some (.cells #[.int .i64 cut] 3 (0, 0)) := by rw [hW1]; exact HS.out.2.2.2
  have HA1 := Lib.hid (show IsN w (.slice a L ca) m from HAw.out)
  have HB1 := Lib.hid (show AtP (· < w.heap.size) W1 (.slice b l cb) (Nl.limbs n) by rw [hW1]; exact HB.out)
  have HM1 := Lib.hid (And.intro b01 (And.intro s1 (And.intro p1 p2)))
  have c1 := cell_of_one p1
  clear hW1 HC HA HB HS b01 p1 p2 k1 k2 j W
  go_wp2_with fail
  obtain ⟨W2, hW2⟩ : ∃ W2, W2 = W1.alloc (.cells #[.int .i64 (l : Int)] 3) := ⟨_, rfl⟩
  rw [← hW2]
  have hM2 : BMem w W2 (.slice b l cb) cut l := by
    have hb := HM1.out.1.trans ((show Below W1.heap.size W1 W2 by rw [hW2]; exact (Below.refl _ _).alloc (Nat.le_refl _) _).mono HM1.out.1.size)
    have hs := HM1.out.2.1
    refine ⟨hb, by rw [hW2]; simp; omega, ?_, ?_, ?_⟩
    · rw [hW2]; exact (Below.heap_alloc _ _ _ (by omega)).trans HM1.out.2.2.1
    · rw [hW2]; exact (Below.heap_alloc _ _ _ (by omega)).trans HM1.out.2.2.2
    · rw [hW2, ← hs]; exact heap_alloc_new _ _
  have HM2 := Lib.hid hM2
  have HB2 := Lib.hid (show AtP (· < w.heap.size) W2 (.slice b l cb) (Nl.limbs n) by rw [hW2]; exact HB1.out.below ((Below.refl _ _).alloc (Nat.le_refl _) _))
  clear hM2 hW2 HM1 HB1 HA1 s1 c1 W1 hcm hcc
  go_loopw [9] (fun h wr => ∃ s k : Nat, h = .int .i64 k ∧ k ≤ 12 ∧ 1 ≤ s ∧ s ≤ 4000 ∧ Hid (Halved l s k) ∧ Hid (BMem w wr (.slice b l cb) cut s) ∧ Hid (W2.grownBy wr (some (w.heap.size + 2)))) (fun h _ => 13 - (intOf h).toNat)
  case atStart => exact ⟨l, 0, rfl, by omega, by omega, by omega, halved_start (by omega), HM2.out, Only.refl _ _⟩
  case round =>
    obtain ⟨s, k, rfl, hk, hs1, hs2, hhv, hmem, hon⟩ := hrel
    have q1 := cell_of_one hmem.out.hs
    have q2 := cell_of_one hmem.out.hc
    have f1 := free_of_one hmem.out.hs
    by_cases hsc : cut ≤ s
    · have hst0 := halved_step hhv.out (by omega)
      obtain ⟨t, ht⟩ : ∃ t, t = (s + 1) / 2 := ⟨_, rfl⟩
      rw [← ht] at hst0
      have hst := halved_small hst0 hlb
      have ht1 : 1 ≤ t := by omega
      have ht2 : t ≤ 4000 := by omega
      have t1 : ((s : Int) + 1) / 2 = (t : Int) := by omega
      have HST := Lib.hid hst0
      clear ht hst0
      go_wp2_with fail
      go_roundw
      case rel => exact ⟨t, k + 1, by go_num, by omega, ht1, ht2, HST.out, hmem.out.set t, grown_trans hon.out (Only.setCell _ _ _ _)⟩
      case measure => simp [intOf] <;> omega
    · obtain ⟨S, hS⟩ : ∃ S, S = s * 2 ^ k := ⟨_, rfl⟩
      have hE := halved_end hhv.out
      rw [← hS] at hE
      have hS0 : 1 ≤ S := by have := hE.1; omega
      have hSb : S ≤ 12000 := by have := hE.2.1; omega
      have t2 : wrap64 ((s : Int) * 2 ^ k) = (S : Int) := by
        rw [show ((s : Int) * 2 ^ k) = (S : Int) by rw [hS]; push_cast; rfl]
        clear hE hS
        unfold wrap64
        omega
      have HE := Lib.hid (And.intro hE hS)
      clear hE hS
      go_wp2_with fail
      have HM3 := Lib.hid (hmem.out.set S)
      obtain ⟨W3, hW3⟩ : ∃ W3, W3 = wr.setCell ⟨w.heap.size + 2, 0, none⟩ (.int .i64 (S : Int)) := ⟨_, rfl⟩
      rw [← hW3] at HM3 ⊢
      have HB3 := Lib.hid (show IsN W3 (.slice b l cb) n by rw [hW3]; exact ((HB2.out.only hon.out (fun b hb => by omega)).only (Only.setCell _ _ _ _) (fun b hb => by omega)).at)
      have HSC := Lib.hid (show s < cut by omega)
      clear hW3 hmem hon hhv q1 q2 f1 HM2 HB2 hsc
      obtain ⟨N, hN⟩ : ∃ N, N = nbits n := ⟨_, rfl⟩
      have hn0 : n ≠ 0 := by
        intro h
        have := HL.out.1
        rw [h, Nl.limbs_zero] at this
        simp at this
        omega
      obtain ⟨sh, hsh, hNS, hd1, hd2⟩ := blocks_divisor hn0 (S := S) (by rw [HL.out.1]; exact HE.out.1.1)
      rw [← hN] at hsh hNS
      have hbi : ∀ k, Calls Tryz.prog 229 #[.slice b l cb] (W3.drewN k) fun e w' => e = .returned (.int .i64 (N : Nat)) ∧ w' = W3.drewN k := fun k =>
        (bits_any _ n _ (HB3.out.below (below_drewN ..)) (by rw [HL.out.1]; omega)).mono fun _ _ h => ⟨by rw [h.1, hN], h.2.symm⟩
      have HBI := Lib.hid hbi
      have q1 := cell_of_one HM3.out.hs
      have q2 := cell_of_one HM3.out.hb
      have w1 : IntKind.i64.wrap (32 * (S : Int)) = 32 * S := by rw [IntKind.wrap_i64]; omega
      have w2 : IntKind.i64.wrap (32 * (S : Int) - (N : Int)) = (sh : Int) := by rw [IntKind.wrap_i64]; omega
      have hshb : sh ≤ 384000 := by omega
      have HD := Lib.hid (And.intro hd1 hd2)
      clear hbi hN hsh hNS hd1 hd2 hn0
      go_quiet ((go_at_call 229; exact Calls.quiet_of_same (HBI.out _)))
      obtain ⟨W4, hW4⟩ : ∃ W4, W4 = W3.drewN nq := ⟨_, rfl⟩
      rw [← hW4]
      have b34 : Below W3.heap.size W3 W4 := by rw [hW4]; exact below_drewN _ _ _
      have HM4 := Lib.hid (HM3.out.below b34)
      have HB4 := Lib.hid (HB3.out.below b34)
      have HSL := Lib.hid (shiftedLeft_any _ n sh W4 HB4.out (by rw [HL.out.1]; omega) (by omega))
      have r1 := cell_of_one HM4.out.hb
      clear hW4 b34 HM3 HB3 HBI q1 q2 w1 w2 nq W3 t2
      go_wp2_with fail
      refine HSL.out.mono ?_
      rintro e W5 ⟨⟨vd, rfl, hd⟩, hb5⟩
      have HM5 := Lib.hid (HM4.out.below hb5)
      have hdl := hd.mono (q := (· < W5.heap.size)) fun _ h _ => h
      obtain ⟨db, dc, rfl, -⟩ := hd.form
      obtain ⟨D, hD⟩ : ∃ D, D = n * 2 ^ sh := ⟨_, rfl⟩
      rw [← hD] at hdl HD
      have hDl : (Nl.limbs D).length ≤ S := Nl.limbs_lt HD.out.1
      obtain ⟨P, hP⟩ : ∃ P, (Nl.limbs D).length = P := ⟨_, rfl⟩
      rw [← hD] at hd ⊢
      rw [hP] at hDl hdl hd ⊢
      have r2 := cell_of_one HM5.out.hb
      have f2 := free_of_one HM5.out.hb
      have HDD := Lib.hid (And.intro hD hP)
      have HV := Lib.hid hdl
      clear hd hb5 hdl hD hP HSL HM4 HB4 r1 W4
      go_wp2_with fail
      obtain ⟨T, hT⟩ : ∃ T, T = W5.heap.size := ⟨_, rfl⟩
      rw [← hT]
      obtain ⟨W6, hW6⟩ : ∃ W6, W6 = (W5.setCell ⟨w.heap.size, 0, none⟩ (.slice db P dc)).alloc (.cells #[.func (.func 279) #[] #[.pointer (some ⟨w.heap.size + 1, 0, none⟩), .pointer (some ⟨T, 0, none⟩)]] 248) := ⟨_, rfl⟩
      rw [← hW6]
      have hDn : Nl.limbs D ≠ [] := by
        intro h
        have h1 := Nl.val_limbs D
        rw [h] at h1
        have h2 : 0 < 4294967296 ^ S := Nat.pow_pos (by decide)
        have h3 := HD.out.2
        rw [← h1, Nl.val_nil] at h3
        omega
      have hs5 : (W5.setCell ⟨w.heap.size, 0, none⟩ (.slice db P dc)).heap.size = T := by rw [hT]; simp [World.setCell]
      have m5 := HM5.out.setB (vb' := .slice db P dc)
      have b56 : Below T (W5.setCell ⟨w.heap.size, 0, none⟩ (.slice db P dc)) W6 := by rw [hW6, ← hs5]; exact (Below.refl _ _).alloc (Nat.le_refl _) _
      have m6 : BMem w W6 (.slice db P dc) cut S := m5.below (by rw [hs5]; exact b56)
      have hT6 : W6.heap[T]? = some (.cells #[.func (.func 279) #[] #[.pointer (some ⟨w.heap.size + 1, 0, none⟩), .pointer (some ⟨T, 0, none⟩)]] 248 (0, 0)) := by
        rw [hW6, ← hs5]; exact heap_alloc_new _ _
      have v6 : AtP (· < T) W6 (.slice db P dc) (Nl.limbs D) := by
        rw [hT]
        refine AtP.below (w := W5.setCell ⟨w.heap.size, 0, none⟩ (.slice db P dc)) ?_ (by rw [hs5]; exact b56)
        exact (((HV.out.apart hDn HM5.out.hb (fun k h => by cases h)).only (Only.setCell w.heap.size 0 _ _) (fun b hb => hb.2))).mono fun b _ h => h.1
      have hTl : T < W6.heap.size := lt_of_block hT6
      have HM6 := Lib.hid m6
      have HT6 := Lib.hid (And.intro hT6 v6)
      have g1 : W6.drew.cell? ⟨w.heap.size + 2, 0, none⟩ = some (.int .i64 S) := cell_of_one m6.hs
      have hSA := shiftedLeft_any _ m sh W6.drew (HAw.out.below (m6.bel.drew)) (by rw [HL.out.2]; omega) (by omega)
      have HSA := Lib.hid hSA
      have HPA := Lib.hid (fun (W7 : World) (va : Value) (h7 : Below W6.drew.heap.size W6.drew W7) (ha7 : IsN W7 va (m * 2 ^ sh)) =>
        blocks_parts m6 hT6 v6 HE.out.2 (by omega) HSC.out hcut (by omega) (by omega) hS0 HD.out.1 HD.out.2 (Below.trans (b := W6.drew) (Below.drew (Below.refl _ _)) h7) ha7 (Nat.le_trans (shift_len (A := 4000) (C := 12000) (by rw [HL.out.2]; exact hla) (by omega)) (by omega)))
      have hsl : w.heap.size + 2 < W6.heap.size := by have := m6.size; omega
      have HB6 := Lib.hid m6.bel
      clear hSA hDn m5 m6 b56 hs5 hW6 hT6 v6 HM5 HV r2 f2 hT W5
      go_region_held3 (fun w' => w'.cell? ⟨w.heap.size + 2, 0, none⟩ = some (.int .i64 S))
        (first
          | go_keep
          | assumption)
        (first
          | (go_at_call 230; refine HSA.out.mono ?_; rintro e w7 ⟨⟨va7, rfl, hva7⟩, hb7⟩; have g7 := (hb7.cell (p := ⟨w.heap.size + 2, 0, none⟩) hsl).trans g1)
          | (go_at_call 283; refine (HPA.out _ _ hb7 hva7).mono ?_; rintro e w8 ⟨⟨vq, vr, rfl, hq8, hr8⟩, hb8⟩; have g8 := (hb8.cell (p := ⟨w.heap.size + 2, 0, none⟩) (Nat.lt_of_lt_of_le hsl hb7.size)).trans g7))
      all_goals
        have hb7' : Below W6.heap.size W6 w7 := Below.trans (b := W6.drew) (Below.drew (Below.refl _ _)) hb7
        have hb68 : Below w.heap.size w w8 := HB6.out.trans ((hb7'.trans (hb8.mono hb7'.size)).mono HB6.out.size)
        have hDp : 0 < D := by
          have h2 : 0 < 4294967296 ^ S := Nat.pow_pos (by decide)
          have h3 := HD.out.2
          omega
        have hrl : (Nl.limbs (m * 2 ^ sh % D)).length ≤ S := Nl.limbs_lt (Nat.lt_trans (Nat.mod_lt _ hDp) HD.out.1)
        have hbk := blocks_back (m := m) (n := n) (s := sh) (by
          apply Nat.pos_of_ne_zero
          intro h
          rw [HDD.out.1, h, Nat.zero_mul] at hDp
          omega)
        rw [← HDD.out.1] at hbk
        have HQ8 := Lib.hid (show IsN w8 vq (m / n) by rw [← hbk.1]; exact hq8)
        have HSR := Lib.hid (shiftedRight_any vr _ sh w8 hr8 (by omega) (by omega))
        have HBK := Lib.hid hbk.2
        have HB8 := Lib.hid hb68
        clear hq8 hr8 hbk hrl hDp hb68 hb7' hb7 hb8 hva7 g7 g8 HPA HSA g1
        go_wp2_with fail
        refine HSR.out.mono ?_
        rintro e w9 ⟨⟨vs, rfl, hv⟩, hb9⟩
        rw [HBK.out] at hv
        have HV9 := Lib.hid (And.intro hv hb9)
        clear hv hb9
        go_wp2_with fail
        go_ret2
        exact ⟨⟨_, _, rfl, HQ8.out.below HV9.out.2, HV9.out.1⟩, HB8.out.trans (HV9.out.2.mono HB8.out.size)⟩

set_option maxRecDepth 10000 in
set_option maxHeartbeats 4000000 in
theorem overBlocks_less (va vb : Value) (m n cut : Nat) (w : World) (ha : IsN w va m) (hb : IsN w vb n) (hcl : cut ≤ (Nl.limbs n).length) (hlt : m < n) :
    Calls Tryz.prog 254 #[va, vb, .int .i64 cut] w fun e w' => DivOk w w' e m n := by
  obtain ⟨W, hW⟩ : ∃ W, W = (w.alloc (.cells #[vb] 191)).alloc (.cells #[.int .i64 (cut : Int)] 3) := ⟨_, rfl⟩
  have hbW : Below w.heap.size w W := by rw [hW]; exact ((Below.refl _ _).alloc (Nat.le_refl _) _).alloc (by simp) _
  have hP : W.heap[w.heap.size]? = some (.cells #[vb] 191 (0, 0)) := by rw [hW]; exact heap_alloc2_old w _ _
  have hQ : W.heap[w.heap.size + 1]? = some (.cells #[.int .i64 cut] 3 (0, 0)) := by rw [hW]; exact heap_alloc2_new w _ _
  have hca := compare_any va vb m n W (ha.below hbW) (hb.below hbW)
  rw [cmpI_lt hlt] at hca
  have HC := Lib.hid hca
  have HE := Lib.hid (fun W1 (h1 : Below w.heap.size w W1) => overElements_less (fun _ => True) va vb m n W1 (ha.below h1) (hb.below h1) hlt)
  have HB := Lib.hid hbW
  have sb := hb.short
  obtain ⟨a, ca, rfl, -⟩ := ha.form
  obtain ⟨b, cb, rfl, -⟩ := hb.form
  have hcc : ¬ (((Nl.limbs n).length : Int) < (cut : Int)) := by omega
  have k1 := cell_of_one hP
  have k2 := cell_of_one hQ
  clear ha hb hbW hP hQ hca hlt
  go_enter Tryz.func254, Tryz.ntmps254
  go_wp2_with fail
  rw [← hW]
  clear hW
  go_wp2_with fail
  refine HC.out.mono ?_
  rintro e w' ⟨rfl, j, rfl⟩
  obtain ⟨W1, hW1⟩ : ∃ W1, W1 = W.drewN j := ⟨_, rfl⟩
  rw [← hW1]
  have c1 : W1.cell? ⟨w.heap.size, 0, none⟩ = some (.slice b (Nl.limbs n).length cb) := by rw [hW1]; exact k1
  have B1 := Lib.hid (show Below w.heap.size w W1 by rw [hW1]; exact HB.out.trans ((below_drewN W j _).mono HB.out.size))
  clear hW1 k1 k2 HC HB W
  go_wp2_with fail
  refine (HE.out W1 B1.out).mono ?_
  rintro e w1 ⟨⟨v, u, rfl, hv, hu⟩, hb1⟩
  have HV := Lib.hid (And.intro hv (And.intro hu.at (B1.out.trans (hb1.mono B1.out.size))))
  clear hv hu hb1
  go_wp2_with fail
  go_ret2
  exact ⟨⟨v, u, rfl, HV.out.1, HV.out.2.1⟩, HV.out.2.2⟩

theorem overBlocks_any (va vb : Value) (m n cut : Nat) (w : World) (ha : IsN w va m) (hb : IsN w vb n) (hla : (Nl.limbs m).length ≤ 4000) (hlb : (Nl.limbs n).length ≤ 4000) (hcut : 2 ≤ cut) (hn : 0 < n) :
    Calls Tryz.prog 254 #[va, vb, .int .i64 cut] w fun e w' => DivOk w w' e m n := by
  by_cases h1 : (Nl.limbs n).length < cut
  · exact overBlocks_short va vb m n cut w ha hb (by omega) hn h1
  · by_cases h2 : m < n
    · exact overBlocks_less va vb m n cut w ha hb (by omega) h2
    · exact overBlocks_long va vb m n cut w ha hb hla hlb hcut (by omega) (by omega)
theorem over_all (va vb : Value) (m n : Nat) (w : World) (ha : IsN w va m) (hb : IsN w vb n) (hla : (Nl.limbs m).length ≤ 4000) (hlb : (Nl.limbs n).length ≤ 4000) (hn : 0 < n) :
    Calls Tryz.prog 203 #[va, vb] w fun e w' => DivOk w w' e m n :=
  over_any va vb m n w ha hb (by omega) (by omega) (fun _ => overElements_any va vb m n w ha hb (by omega) hn) (fun _ => overBlocks_any va vb m n 100 w ha hb hla hlb (by decide) hn)
end Go.Proofs.YtodjncohhgknlaaGreat
