/-
  What Add and Sub do. Conditions: those that each theorem names.
  What Zeros, Bits, ToUint and the reference's Bits and Zeros do. Conditions: those that each theorem names.
-/
import Derived.Test.YtkbghamkalidcaaGreatOne
import Derived.Test.YtkbghamkalidcaaGreatMinusAll
import Derived.Test.YtkbghamkalidcaaGreatCompareAll
import Derived.Test.YtkbghamkalidcaaGreatSmallAll
import Derived.Lib.TrailingZeros
namespace Go.Proofs.YtkbghamkalidcaaGreat
open Go.RowKit

/-- what a call on two numbers gives: a number, or an error -/
def Res2 (w w' : World) (e : Ending) (xs ys : List Nat) (k : Int) (m : Nat) : Prop :=
  ∃ c, ((validB xs = true ∧ validB ys = true ∧ c = codeOf k m) ∨ ((validB xs = false ∨ validB ys = false) ∧ c = 1)) ∧ NatOut w w' e c m
/-- what a call on one number gives: a number, or an error -/
def Res1 (w w' : World) (e : Ending) (xs : List Nat) (k : Int) (m : Nat) : Prop :=
  ∃ c, ((validB xs = true ∧ c = codeOf k m) ∨ (validB xs = false ∧ c = 1)) ∧ NatOut w w' e c m
/-- the same for two results -/
def Pair2 (w w' : World) (e : Ending) (xs ys : List Nat) (k : Int) (q r : Nat) : Prop :=
  ∃ c, ((validB xs = true ∧ validB ys = true ∧ c = k) ∨ ((validB xs = false ∨ validB ys = false) ∧ c = 1)) ∧ TwoOut w w' e c q r
theorem NatOut.mono {w W w' : World} {e : Ending} {c : Int} {m : Nat} (h : NatOut W w' e c m) (hb : Below w.heap.size w W) : NatOut w w' e c m := by
  obtain ⟨⟨v, h1, h2, h3⟩, h4⟩ := h
  exact ⟨⟨v, h1, fun h => (h2 h).mono hb.size, h3⟩, hb.trans (h4.mono hb.size)⟩
theorem TwoOut.mono {w W w' : World} {e : Ending} {c : Int} {q r : Nat} (h : TwoOut W w' e c q r) (hb : Below w.heap.size w W) : TwoOut w w' e c q r := by
  obtain ⟨⟨u, v, h1, h2, h3⟩, h4⟩ := h
  exact ⟨⟨u, v, h1, fun h => ⟨(h2 h).1.mono hb.size, (h2 h).2.mono hb.size⟩, h3⟩, hb.trans (h4.mono hb.size)⟩

theorem given_two {w : World} {B : Nat} {va vb : Value} {xs ys : List Nat} (h1 : w.cell? ⟨B, 0, none⟩ = some va) (h2 : w.cell? ⟨B, 1, none⟩ = some vb) (ha : At w va xs) (hb : At w vb ys) : Given w B [(va, xs), (vb, ys)] := by
  intro i hi
  have : i = 0 ∨ i = 1 := by simp at hi; omega
  rcases this with rfl | rfl
  · exact ⟨h1, ha⟩
  · exact ⟨h2, hb⟩
theorem given_one {w : World} {B : Nat} {va : Value} {xs : List Nat} (h1 : w.cell? ⟨B, 0, none⟩ = some va) (ha : At w va xs) : Given w B [(va, xs)] := by
  intro i hi
  have : i = 0 := by simp at hi; omega
  subst this
  exact ⟨h1, ha⟩

/-- a guarded call on two numbers -/
theorem one_two (G : FuncId) (caps : Array Value) (w W : World) (k : Int) (m B : Nat) (va vb : Value) (xs ys : List Nat) (hb0 : Below w.heap.size w W) (hBl : B < W.heap.size)
    (h1 : W.cell? ⟨B, 0, none⟩ = some va) (h2 : W.cell? ⟨B, 1, none⟩ = some vb) (ha : At w va xs) (hb : At w vb ys)
    (h : validB xs = true → validB ys = true → NatDoes G caps W k m) (hF : ∀ args w, (callFunc G args).run Tryz.prog w = .ok (.enter G args) w) :
    Calls Tryz.prog 169 #[.func (.func G) #[] caps, .slice (some ⟨B, 0, none⟩) 2 2] W fun e w' => Res2 w w' e xs ys k m := by
  refine (one_any G caps W k m (some ⟨B, 0, none⟩) B [(va, xs), (vb, ys)] (by simp) (fun _ => ⟨rfl, hBl⟩) (given_two h1 h2 (ha.below hb0) (hb.below hb0)) (fun hv => h (hv _ (.head _)) (hv _ (.tail _ (.head _)))) hF).mono ?_
  rintro e w' ⟨c, hc, ho⟩
  refine ⟨c, ?_, ho.mono hb0⟩
  rcases hc with ⟨hv, rfl⟩ | ⟨⟨p, hp, hv⟩, rfl⟩
  · exact .inl ⟨hv _ (.head _), hv _ (.tail _ (.head _)), rfl⟩
  · refine .inr ⟨?_, rfl⟩
    simp at hp
    rcases hp with rfl | rfl
    · exact .inl hv
    · exact .inr hv
theorem one_one (G : FuncId) (caps : Array Value) (w W : World) (k : Int) (m B : Nat) (va : Value) (xs : List Nat) (hb0 : Below w.heap.size w W) (hBl : B < W.heap.size)
    (h1 : W.cell? ⟨B, 0, none⟩ = some va) (ha : At w va xs)
    (h : validB xs = true → NatDoes G caps W k m) (hF : ∀ args w, (callFunc G args).run Tryz.prog w = .ok (.enter G args) w) :
    Calls Tryz.prog 169 #[.func (.func G) #[] caps, .slice (some ⟨B, 0, none⟩) 1 1] W fun e w' => Res1 w w' e xs k m := by
  refine (one_any G caps W k m (some ⟨B, 0, none⟩) B [(va, xs)] (by simp) (fun _ => ⟨rfl, hBl⟩) (given_one h1 (ha.below hb0)) (fun hv => h (hv _ (.head _))) hF).mono ?_
  rintro e w' ⟨c, hc, ho⟩
  refine ⟨c, ?_, ho.mono hb0⟩
  rcases hc with ⟨hv, rfl⟩ | ⟨⟨p, hp, hv⟩, rfl⟩
  · exact .inl ⟨hv _ (.head _), rfl⟩
  · refine .inr ⟨?_, rfl⟩
    simp at hp
    subst hp
    exact hv
theorem two_two (G : FuncId) (caps : Array Value) (w W : World) (k : Int) (q r B : Nat) (va vb : Value) (xs ys : List Nat) (hb0 : Below w.heap.size w W) (hBl : B < W.heap.size)
    (h1 : W.cell? ⟨B, 0, none⟩ = some va) (h2 : W.cell? ⟨B, 1, none⟩ = some vb) (ha : At w va xs) (hb : At w vb ys)
    (h : validB xs = true → validB ys = true → TwoDoes G caps W k q r) (hF : ∀ args w, (callFunc G args).run Tryz.prog w = .ok (.enter G args) w) :
    Calls Tryz.prog 184 #[.func (.func G) #[] caps, .slice (some ⟨B, 0, none⟩) 2 2] W fun e w' => Pair2 w w' e xs ys k q r := by
  refine (two_any G caps W k q r (some ⟨B, 0, none⟩) B [(va, xs), (vb, ys)] (by simp) (fun _ => ⟨rfl, hBl⟩) (given_two h1 h2 (ha.below hb0) (hb.below hb0)) (fun hv => h (hv _ (.head _)) (hv _ (.tail _ (.head _)))) hF).mono ?_
  rintro e w' ⟨c, hc, ho⟩
  refine ⟨c, ?_, ho.mono hb0⟩
  rcases hc with ⟨hv, rfl⟩ | ⟨⟨p, hp, hv⟩, rfl⟩
  · exact .inl ⟨hv _ (.head _), hv _ (.tail _ (.head _)), rfl⟩
  · refine .inr ⟨?_, rfl⟩
    simp at hp
    rcases hp with rfl | rfl
    · exact .inl hv
    · exact .inr hv
theorem validB_eq {xs : List Nat} (hs : Nl.Small xs) (h : validB xs = true) : xs = Nl.limbs (Nl.val xs) ∧ (Nl.limbs (Nl.val xs)).length ≤ 1024 := by
  obtain ⟨m, hm, hl⟩ := validB_norm hs h
  rw [hm, Nl.val_limbs]; exact ⟨rfl, hl⟩
theorem At.num {w : World} {v : Value} {xs : List Nat} (h : At w v xs) (hs : Nl.Small xs) (hv : validB xs = true) : IsN w v (Nl.val xs) := by
  rw [IsN, ← (validB_eq hs hv).1]; exact h

set_option maxHeartbeats 1000000 in
theorem add1_does (va vb : Value) (m n K : Nat) (w : World) (hK1 : w.cell? ⟨K, 0, none⟩ = some va) (hK2 : w.cell? ⟨K + 1, 0, none⟩ = some vb) (hl : K + 1 < w.heap.size) (ha : IsN w va m) (hb : IsN w vb n)
    (hla : (Nl.limbs m).length ≤ 1024) (hlb : (Nl.limbs n).length ≤ 1024) : NatDoes 191 #[.pointer (some ⟨K, 0, none⟩), .pointer (some ⟨K + 1, 0, none⟩)] w 0 (m + n) := by
  intro W hW
  have k1 := (hW.cell (p := ⟨K, 0, none⟩) (show K < w.heap.size by omega)).trans hK1
  have k2 := (hW.cell (p := ⟨K + 1, 0, none⟩) hl).trans hK2
  have hp := Lib.hid (plus_any va vb m n W (ha.below hW) (hb.below hW) (by omega) (by omega))
  clear hK1 hK2 ha hb hW
  go_enter Tryz.func191, Tryz.ntmps191
  go_wp2_with fail
  refine hp.out.mono ?_
  rintro e w1 ⟨⟨v, rfl, hv⟩, hb1⟩
  have HV := Lib.hid hv
  have HB := Lib.hid hb1
  clear hv hb1
  go_wp2_with fail
  go_ret
  exact ⟨HB.out, .inl ⟨trivial, v, rfl, HV.out⟩⟩

/-- a world with two cells for two numbers, and a row of both -/
theorem boxes2 (w : World) (va vb : Value) (t t' t'' : TypeId) (W : World) (hW : W = ((w.alloc (.cells #[va] t)).alloc (.cells #[vb] t')).alloc (.cells #[va, vb] t'')) :
    Below w.heap.size w W ∧ W.heap.size = w.heap.size + 3 ∧ W.cell? ⟨w.heap.size, 0, none⟩ = some va ∧ W.cell? ⟨w.heap.size + 1, 0, none⟩ = some vb ∧
      W.cell? ⟨w.heap.size + 1 + 1, 0, none⟩ = some va ∧ W.cell? ⟨w.heap.size + 1 + 1, 1, none⟩ = some vb := by
  have e1 : W.heap[w.heap.size]? = some (.cells #[va] t (0, 0)) := by
    rw [hW]; exact (Below.heap_alloc _ _ _ (by simp; omega)).trans (heap_alloc2_old w _ _)
  have e2 : W.heap[w.heap.size + 1]? = some (.cells #[vb] t' (0, 0)) := by
    rw [hW]; exact (Below.heap_alloc _ _ _ (by simp)).trans (heap_alloc2_new w _ _)
  have e3 : W.heap[w.heap.size + 1 + 1]? = some (.cells #[va, vb] t'' (0, 0)) := by
    rw [hW]
    have := heap_alloc_new ((w.alloc (.cells #[va] t)).alloc (.cells #[vb] t')) (.cells #[va, vb] t'')
    simpa using this
  refine ⟨?_, ?_, cell_of_one e1, cell_of_one e2, ?_, ?_⟩
  · rw [hW]; exact (((Below.refl _ _).alloc (Nat.le_refl _) _).alloc (by simp) _).alloc (by simp; omega) _
  · rw [hW]; simp
  · simp [World.cell?, e3]
  · simp [World.cell?, e3]
/-- the same for a number and one more value -/
theorem boxes3 (w : World) (va vb : Value) (t t' t'' : TypeId) (W : World) (hW : W = ((w.alloc (.cells #[va] t)).alloc (.cells #[vb] t')).alloc (.cells #[va] t'')) :
    Below w.heap.size w W ∧ W.heap.size = w.heap.size + 3 ∧ W.cell? ⟨w.heap.size, 0, none⟩ = some va ∧ W.cell? ⟨w.heap.size + 1, 0, none⟩ = some vb ∧
      W.cell? ⟨w.heap.size + 1 + 1, 0, none⟩ = some va := by
  have e1 : W.heap[w.heap.size]? = some (.cells #[va] t (0, 0)) := by
    rw [hW]; exact (Below.heap_alloc _ _ _ (by simp; omega)).trans (heap_alloc2_old w _ _)
  have e2 : W.heap[w.heap.size + 1]? = some (.cells #[vb] t' (0, 0)) := by
    rw [hW]; exact (Below.heap_alloc _ _ _ (by simp)).trans (heap_alloc2_new w _ _)
  have e3 : W.heap[w.heap.size + 1 + 1]? = some (.cells #[va] t'' (0, 0)) := by
    rw [hW]
    have := heap_alloc_new ((w.alloc (.cells #[va] t)).alloc (.cells #[vb] t')) (.cells #[va] t'')
    simpa using this
  refine ⟨?_, ?_, cell_of_one e1, cell_of_one e2, cell_of_one e3⟩
  · rw [hW]; exact (((Below.refl _ _).alloc (Nat.le_refl _) _).alloc (by simp) _).alloc (by simp; omega) _
  · rw [hW]; simp
set_option maxHeartbeats 1000000 in
/-- the sum of two numbers -/
theorem add_any (va vb : Value) (xs ys : List Nat) (w : World) (ha : At w va xs) (hb : At w vb ys) (hsx : Nl.Small xs) (hsy : Nl.Small ys) :
    Calls Tryz.prog 142 #[va, vb] w fun e w' => Res2 w w' e xs ys 0 (Nl.val xs + Nl.val ys) := by
  have hmf : ∀ (fn : Fn) (first cap : Array Value) (w : World), (Instr.makeFunc fn first cap).run Tryz.prog w = .ok (.func fn first cap) w := fun _ _ _ _ => rfl
  have HA := Lib.hid ha
  have HB := Lib.hid hb
  obtain ⟨a, ca, rfl, -⟩ := ha.form
  obtain ⟨b, cb, rfl, -⟩ := hb.form
  clear ha hb
  go_enter Tryz.func142, Tryz.ntmps142
  go_wp2_with fail
  obtain ⟨W, hW⟩ : ∃ W, W = ((w.alloc (.cells #[.slice a xs.length ca] 23)).alloc (.cells #[.slice b ys.length cb] 23)).alloc (.cells #[.slice a xs.length ca, .slice b ys.length cb] 23) := ⟨_, rfl⟩
  rw [← hW]
  obtain ⟨hbl, hsz, c1, c2, c3, c4⟩ := boxes2 w _ _ _ _ _ W hW
  clear hW
  refine (one_two _ _ w W 0 (Nl.val xs + Nl.val ys) (w.heap.size + 1 + 1) _ _ xs ys hbl (by omega) c3 c4 HA.out HB.out (fun h1 h2 => ?_) (fun _ _ => by kernel_rfl)).mono ?_
  · exact add1_does _ _ _ _ w.heap.size W c1 c2 (by omega) ((HA.out.num hsx h1).below hbl) ((HB.out.num hsy h2).below hbl) (validB_eq hsx h1).2 (validB_eq hsy h2).2
  clear c1 c2 c3 c4 hbl hsz
  rintro e w1 ⟨c, hc, ⟨v, rfl, h2, h3⟩, hb1⟩
  have HR := Lib.hid (And.intro hc (And.intro h2 (And.intro h3 hb1)))
  clear hc h2 h3 hb1
  go_wp2_with fail
  go_ret2
  exact ⟨c, HR.out.1, ⟨v, rfl, HR.out.2.1, HR.out.2.2.1⟩, HR.out.2.2.2⟩

/-- the error of a difference -/
def subK (m n : Nat) : Int := if n ≤ m then 0 else 3

set_option maxHeartbeats 1000000 in
theorem sub1_does (va vb : Value) (m n K : Nat) (w : World) (hK1 : w.cell? ⟨K, 0, none⟩ = some va) (hK2 : w.cell? ⟨K + 1, 0, none⟩ = some vb) (hl : K + 1 < w.heap.size) (ha : IsN w va m) (hb : IsN w vb n)
    (hla : (Nl.limbs m).length ≤ 1024) : NatDoes 193 #[.pointer (some ⟨K, 0, none⟩), .pointer (some ⟨K + 1, 0, none⟩)] w (subK m n) (m - n) := by
  obtain ⟨k, hk⟩ : ∃ k : Int, k = subK m n := ⟨_, rfl⟩
  rw [← hk]
  rw [subK] at hk
  have HK := Lib.hid hk
  clear hk
  intro W hW
  have k1 := (hW.cell (p := ⟨K, 0, none⟩) (show K < w.heap.size by omega)).trans hK1
  have k2 := (hW.cell (p := ⟨K + 1, 0, none⟩) hl).trans hK2
  have ha' := ha.below hW
  have hb' := hb.below hW
  obtain ⟨a, ca, rfl, -⟩ := ha'.form
  obtain ⟨b, cb, rfl, -⟩ := hb'.form
  have HA := Lib.hid ha'
  have HB := Lib.hid hb'
  clear hK1 hK2 ha hb hW ha' hb' hl
  go_enter Tryz.func193, Tryz.ntmps193
  go_wp2_with fail
  go_region
  go_wp2_with fail
  refine (compare_any _ _ m n _ (HA.out.below (below_drewN ..)) (HB.out.below (below_drewN ..))).mono ?_
  rintro e w1 ⟨rfl, j, hw1⟩
  have hb1 : Below W.heap.size W w1 := by rw [hw1]; exact ⟨rfl, rfl, rfl, Nat.le_refl _, fun _ _ => rfl⟩
  have HB1 := Lib.hid hb1
  clear hb1 hw1 k1 k2
  by_cases hle : n ≤ m
  · have e0 : decide ((0 : Int) ≤ cmpI m n) = true := by rw [decide_eq_true_eq, cmpI]; split <;> (try split) <;> omega
    have hk := HK.out
    rw [if_pos hle] at hk
    have HK' := Lib.hid hk
    clear hk
    go_wp2_with (go_at_call 55; refine (must_yes _ _).mono ?_; rintro e w' ⟨rfl, rfl⟩)
    refine (minus_any _ _ m n _ (HA.out.below HB1.out) (HB.out.below HB1.out) (by omega) hle).mono ?_
    rintro e w2 ⟨⟨v, rfl, hv⟩, hb2⟩
    have HV := Lib.hid hv
    have HB2 := Lib.hid (HB1.out.trans (hb2.mono HB1.out.size))
    clear hv hb2 e0 hle
    go_wp2_with fail
    go_ret
    exact ⟨HB2.out, .inl ⟨HK'.out, v, rfl, HV.out⟩⟩
  · have e0 : decide ((0 : Int) ≤ cmpI m n) = false := by rw [decide_eq_false_iff_not, cmpI_lt (by omega)]; omega
    have hk := HK.out
    rw [if_neg hle] at hk
    have HK' := Lib.hid hk
    clear hk
    clear hle
    go_wp2_with (go_at_call 55; refine (must_no _ _).mono ?_; rintro e w' ⟨rfl, rfl⟩)
    exact ⟨rfl, HB1.out, .inr ⟨by rw [HK'.out]; decide, by rw [HK'.out]⟩⟩

set_option maxHeartbeats 1000000 in
/-- the difference of two numbers -/
theorem sub_any (va vb : Value) (xs ys : List Nat) (w : World) (ha : At w va xs) (hb : At w vb ys) (hsx : Nl.Small xs) (hsy : Nl.Small ys) :
    Calls Tryz.prog 143 #[va, vb] w fun e w' => Res2 w w' e xs ys (subK (Nl.val xs) (Nl.val ys)) (Nl.val xs - Nl.val ys) := by
  have hmf : ∀ (fn : Fn) (first cap : Array Value) (w : World), (Instr.makeFunc fn first cap).run Tryz.prog w = .ok (.func fn first cap) w := fun _ _ _ _ => rfl
  have HA := Lib.hid ha
  have HB := Lib.hid hb
  obtain ⟨a, ca, rfl, -⟩ := ha.form
  obtain ⟨b, cb, rfl, -⟩ := hb.form
  clear ha hb
  go_enter Tryz.func143, Tryz.ntmps143
  go_wp2_with fail
  obtain ⟨W, hW⟩ : ∃ W, W = ((w.alloc (.cells #[.slice a xs.length ca] 23)).alloc (.cells #[.slice b ys.length cb] 23)).alloc (.cells #[.slice a xs.length ca, .slice b ys.length cb] 23) := ⟨_, rfl⟩
  rw [← hW]
  obtain ⟨hbl, hsz, c1, c2, c3, c4⟩ := boxes2 w _ _ _ _ _ W hW
  clear hW
  refine (one_two _ _ w W (subK (Nl.val xs) (Nl.val ys)) (Nl.val xs - Nl.val ys) (w.heap.size + 1 + 1) _ _ xs ys hbl (by omega) c3 c4 HA.out HB.out (fun h1 h2 => ?_) (fun _ _ => by kernel_rfl)).mono ?_
  · exact sub1_does _ _ _ _ w.heap.size W c1 c2 (by omega) ((HA.out.num hsx h1).below hbl) ((HB.out.num hsy h2).below hbl) (validB_eq hsx h1).2
  clear c1 c2 c3 c4 hbl hsz
  rintro e w1 ⟨c, hc, ⟨v, rfl, h2, h3⟩, hb1⟩
  have HR := Lib.hid (And.intro hc (And.intro h2 (And.intro h3 hb1)))
  clear hc h2 h3 hb1
  go_wp2_with fail
  go_ret2
  exact ⟨c, HR.out.1, ⟨v, rfl, HR.out.2.1, HR.out.2.2.1⟩, HR.out.2.2.2⟩

end Go.Proofs.YtkbghamkalidcaaGreat

namespace Go.Proofs.YtkbghamkalidcaaGreat
open Go.RowKit

/-- the table of math/bits -/
def TabAt (w : World) : Prop := (∀ i, i < 32 → w.cell? ⟨0, i, none⟩ = some (.int .u8 ((Lib.deBruijn32tab.getD i 0 : Nat) : Int))) ∧ 0 < w.heap.size
theorem TabAt.below {w w' : World} (h : TabAt w) (hb : Below w.heap.size w w') : TabAt w' :=
  ⟨fun i hi => (hb.cell (p := ⟨0, i, none⟩) h.2).trans (h.1 i hi), Nat.lt_of_lt_of_le h.2 hb.size⟩

/-- a call that answers with an int and an error, and changes nothing -/
def IntOut (w w' : World) (e : Ending) (k : IntKind) (x c : Int) : Prop := e = .returned (.tuple #[.int k x, .int .i64 c]) ∧ w' = w
theorem natBits_any (va : Value) (xs : List Nat) (w : World) (ha : At w va xs) (hs : Nl.Small xs) :
    Calls Tryz.prog 241 #[va] w fun e w' => IntOut w w' e .i64 (if validB xs = true then (nbits (Nl.val xs) : Int) else 0) (if validB xs = true then 0 else 1) := by
  have V := valid_any va xs w ha
  cases hv : validB xs with
  | true =>
    rw [hv] at V
    have HV := Lib.hid V
    have hle := validB_eq hs hv
    have hz := bits_any va (Nl.val xs) w (by rw [IsN, ← hle.1]; exact ha) (by omega)
    have HZ := Lib.hid hz
    obtain ⟨a, ca, rfl, -⟩ := ha.form
    clear ha V hv hle hz
    go_enter Tryz.func241, Tryz.ntmps241
    go_wp2_with (go_at_call 107; refine HV.out.mono ?_; rintro e w' ⟨rfl, rfl⟩)
    go_at_call 171
    refine HZ.out.mono ?_
    rintro e w' ⟨rfl, rfl⟩
    go_wp2_with fail
    go_ret2
    exact ⟨rfl, rfl⟩
  | false =>
    rw [hv] at V
    have HV := Lib.hid V
    obtain ⟨a, ca, rfl, -⟩ := ha.form
    clear ha V hv
    go_enter Tryz.func241, Tryz.ntmps241
    go_wp2_with (go_at_call 107; refine HV.out.mono ?_; rintro e w' ⟨rfl, rfl⟩)
    go_ret2
    exact ⟨rfl, rfl⟩
/-- what ToUint answers, and its error -/
def uintV (xs : List Nat) : Int := if validB xs = true ∧ xs.length ≤ 2 then (Nl.val xs : Int) else 0
def uintC (xs : List Nat) : Int := if validB xs = true then (if xs.length ≤ 2 then 0 else 3) else 1
theorem toUint_any (va : Value) (xs : List Nat) (w : World) (ha : At w va xs) (hs : Nl.Small xs) :
    Calls Tryz.prog 218 #[va] w fun e w' => IntOut w w' e .u64 (uintV xs) (uintC xs) := by
  have V := valid_any va xs w ha
  cases hv : validB xs with
  | true =>
    rw [hv] at V
    have HV := Lib.hid V
    have hle := validB_eq hs hv
    by_cases h2 : xs.length ≤ 2
    · have e1 : decide ((xs.length : Int) > 2) = false := decide_eq_false (by omega)
      have hm : Nl.val xs < 18446744073709551616 := by
        have h1 := Nl.val_lt hs
        have h3 := Nl.pow_le h2
        have h4 : 4294967296 ^ 2 = 18446744073709551616 := by decide
        omega
      have hz := uint_any va (Nl.val xs) w (by rw [IsN, ← hle.1]; exact ha) hm
      have HZ := Lib.hid hz
      have HR := Lib.hid (show uintV xs = (Nl.val xs : Int) ∧ uintC xs = 0 from ⟨by rw [uintV, if_pos ⟨hv, h2⟩], by rw [uintC, if_pos hv, if_pos h2]⟩)
      obtain ⟨a, ca, rfl, -⟩ := ha.form
      clear ha V hv hle hz hm h2
      go_enter Tryz.func218, Tryz.ntmps218
      go_wp2_with (go_at_call 107; refine HV.out.mono ?_; rintro e w' ⟨rfl, rfl⟩)
      go_at_call 243
      refine HZ.out.mono ?_
      rintro e w' ⟨rfl, rfl⟩
      go_wp2_with fail
      go_ret2
      rw [IntOut, HR.out.1, HR.out.2]
      exact ⟨rfl, rfl⟩
    · have e1 : decide ((xs.length : Int) > 2) = true := decide_eq_true (by omega)
      have HR := Lib.hid (show uintV xs = 0 ∧ uintC xs = 3 from ⟨by rw [uintV, if_neg (fun h => h2 h.2)], by rw [uintC, if_pos hv, if_neg h2]⟩)
      obtain ⟨a, ca, rfl, -⟩ := ha.form
      clear ha V hv hle h2
      go_enter Tryz.func218, Tryz.ntmps218
      go_wp2_with (go_at_call 107; refine HV.out.mono ?_; rintro e w' ⟨rfl, rfl⟩)
      go_ret2
      rw [IntOut, HR.out.1, HR.out.2]
      exact ⟨rfl, rfl⟩
  | false =>
    rw [hv] at V
    have HV := Lib.hid V
    have HR := Lib.hid (show uintV xs = 0 ∧ uintC xs = 1 from ⟨by rw [uintV, if_neg (fun h => by rw [hv] at h; exact absurd h.1 (by decide))], by rw [uintC, if_neg (by rw [hv]; decide)]⟩)
    obtain ⟨a, ca, rfl, -⟩ := ha.form
    clear ha V hv
    go_enter Tryz.func218, Tryz.ntmps218
    go_wp2_with (go_at_call 107; refine HV.out.mono ?_; rintro e w' ⟨rfl, rfl⟩)
    go_ret2
    rw [IntOut, HR.out.1, HR.out.2]
    exact ⟨rfl, rfl⟩
end Go.Proofs.YtkbghamkalidcaaGreat
