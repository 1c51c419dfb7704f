/-
  What Text of package whole gives of an integer that is not 0. Conditions: those that each theorem names.
  What the reference's FromInt of integers does. Conditions: those that each theorem names.
-/
import Derived.Test.YtkbghamkalidcaaGreatTextV
import Derived.Test.YtkbghamkalidcaaGreatLawSumsAll
namespace Go.Proofs.YtkbghamkalidcaaGreat
open Go.RowKit

theorem isBase_yes (B : Nat) (w : World) (h2 : 2 ≤ B) (h36 : B ≤ 36) : Calls Tryz.prog 97 #[.int .i64 B] w fun e w' => e = .returned (.bool true) ∧ w = w' := by
  have t1 : decide (2 ≤ B) = true := decide_eq_true h2
  have t2 : decide (B ≤ 36) = true := decide_eq_true h36
  have t3 : decide ((2 : Int) ≤ (B : Int)) = true := decide_eq_true (by omega)
  have t4 : decide ((B : Int) ≤ 36) = true := decide_eq_true (by omega)
  clear h2 h36
  go_enter Tryz.func97, Tryz.ntmps97
  go_wp2_with fail
  go_ret
  exact ⟨rfl, rfl⟩

/-- the work of Text: what its variables hold -/
structure TextBox (w : World) (K : Nat) (s : Bool) (p : Option Addr) (l c B : Nat) (up : Bool) : Prop where
  a : w.heap[K]? = some (.cells #[.bool s, .slice p l c] 25 (0, 0))
  b : w.heap[K + 1]? = some (.cells #[.int .i64 B] 3 (0, 0))
  u : w.heap[K + 2]? = some (.cells #[.bool up] 4 (0, 0))
  t : w.heap[K + 3]? = some (.cells #[.string ⟨#[]⟩] 9 (0, 0))
theorem TextBox.move {w w' : World} {K : Nat} {s : Bool} {p : Option Addr} {l c B : Nat} {up : Bool} (h : TextBox w K s p l c B up) (hb : Below w.heap.size w w') : TextBox w' K s p l c B up :=
  ⟨(hb.block _ (lt_of_block h.a)).trans h.a, (hb.block _ (lt_of_block h.b)).trans h.b, (hb.block _ (lt_of_block h.u)).trans h.u, (hb.block _ (lt_of_block h.t)).trans h.t⟩

set_option maxHeartbeats 4000000 in
theorem text1_ok (K : Nat) (s : Bool) (p : Option Addr) (l c B : Nat) (up : Bool) (xs : List Nat) (T : ByteArray) (w : World) (hbox : TextBox w K s p l c B up)
    (hu : At w (.slice p l c) xs) (v0 : validI s xs = true) (h2 : 2 ≤ B) (h36 : B ≤ 36)
    (htx : ∀ w', Below w.heap.size w w' → Calls Tryz.prog 98 #[.agg #[.bool s, .slice p l c], .int .i64 B, .bool up] w' fun e w'' => e = .returned (.string T) ∧ Below w'.heap.size w' w'') :
    Calls Tryz.prog 96 #[.pointer (some ⟨K, 0, none⟩), .pointer (some ⟨K + 1, 0, none⟩), .pointer (some ⟨K + 2, 0, none⟩), .pointer (some ⟨K + 3, 0, none⟩)] w fun e w' =>
      e = .returned (.tuple #[]) ∧ w.grownBy w' (some (K + 3)) ∧ w'.heap[K + 3]? = some (.cells #[.string T] 9 (0, 0)) := by
  obtain ⟨W, hW⟩ : ∃ W, W = w.alloc (.cells #[.bool s, .slice p l c] 25) := ⟨_, rfl⟩
  have hb : Below w.heap.size w W := by rw [hW]; exact below_one w _
  have hrow : W.heap[w.heap.size]? = some (.cells #[.bool s, .slice p l c] 25 (0, 0)) := by rw [hW]; exact heap_alloc_new _ _
  have HM := Lib.hid (mustBeValid_any w.heap.size [(s, .slice p l c, xs)] W (givenI_one w.heap.size hrow (hu.below hb)) (lt_of_block hrow) (by simp))
  have HVV := Lib.hid (show ∀ q ∈ [(s, Value.slice p l c, xs)], okI q = true from fun q hq => by
    simp only [List.mem_cons, List.not_mem_nil, or_false] at hq
    subst hq
    exact v0)
  have HB := Lib.hid hb
  have HBX := Lib.hid hbox
  have HTX := Lib.hid htx
  have HIB := Lib.hid (fun (w' : World) => isBase_yes B w' h2 h36)
  have k00 := cell_of_row _ _ 0 _ _ (0, 0) hbox.a
  have k01 := cell_of_row _ _ 1 _ _ (0, 0) hbox.a
  simp only [List.getElem?_toArray, List.getElem?_cons_zero, List.getElem?_cons_succ] at k00 k01
  clear hu v0 h2 h36 htx hb hrow hbox
  go_enter Tryz.func96, Tryz.ntmps96
  go_wp2_with fail
  rw [← hW]
  clear hW
  refine HM.out.mono ?_
  rintro e w1 ⟨hb1, ⟨-, rfl⟩ | ⟨⟨q, hq, hq2⟩, -⟩⟩
  case inr => exact Bool.noConfusion (hq2.symm.trans (HVV.out q hq))
  have B1 := Lib.hid (HB.out.trans (hb1.mono HB.out.size))
  have X1 := Lib.hid (HBX.out.move B1.out)
  have i00 := cell_of_row _ _ 0 _ _ (0, 0) X1.out.a
  have i01 := cell_of_row _ _ 1 _ _ (0, 0) X1.out.a
  have i10 := cell_of_one X1.out.b
  have i20 := cell_of_one X1.out.u
  simp only [List.getElem?_toArray, List.getElem?_cons_zero, List.getElem?_cons_succ] at i00 i01
  clear hb1 HM HVV HB k00 k01
  go_wp2_with (first
    | (go_at_call 97; refine (HIB.out _).mono ?_; rintro e w' ⟨rfl, rfl⟩)
    | (go_at_call 55; refine (must_yes _ _).mono ?_; rintro e w' ⟨rfl, rfl⟩))
  refine (HTX.out w1 B1.out).mono ?_
  rintro e w2 ⟨rfl, hb2⟩
  have HB2 := Lib.hid (B1.out.trans (hb2.mono B1.out.size))
  have X2 := Lib.hid (X1.out.move hb2)
  have g0 := cell_of_one X2.out.t
  have f0 := free_of_one X2.out.t
  clear hb2 HTX i00 i01 i10 i20 X1
  go_wp2_with fail
  go_end0
  exact ⟨rfl, grown_trans (grown_of_below HB2.out) (Only.setCell (K + 3) 0 _ w2), one_setCell X2.out.t⟩

set_option maxHeartbeats 4000000 in
theorem wholeText_ok (va : Value) (s : Bool) (xs : List Nat) (B : Nat) (up : Bool) (T : ByteArray) (w : World) (h0 : AtI w va s xs) (v0 : validI s xs = true) (h2 : 2 ≤ B) (h36 : B ≤ 36)
    (htx : ∀ w', Below w.heap.size w w' → Calls Tryz.prog 98 #[va, .int .i64 B, .bool up] w' fun e w'' => e = .returned (.string T) ∧ Below w'.heap.size w' w'') :
    Calls Tryz.prog 40 #[va, .int .i64 B, .bool up] w fun e w' => e = .returned (.tuple #[.string T, .int .i64 0]) ∧ Below w.heap.size w w' := by
  have hmf : ∀ (fn : Fn) (first cap : Array Value) (w : World), (Instr.makeFunc fn first cap).run Tryz.prog w = .ok (.func fn first cap) w := fun _ _ _ _ => rfl
  obtain ⟨p0, c0, rfl, u0⟩ := h0.form
  obtain ⟨W, hW⟩ : ∃ W, W = (((w.alloc (.cells #[.bool s, .slice p0 xs.length c0] 25)).alloc (.cells #[.int .i64 B] 3)).alloc (.cells #[.bool up] 4)).alloc (.cells #[.string ⟨#[]⟩] 9) := ⟨_, rfl⟩
  have hb : Below w.heap.size w W := by rw [hW]; exact (three_new w _ _ _).alloc (by simp <;> omega) _
  have hs : W.heap.size = w.heap.size + 4 := by rw [hW]; simp
  have hbox : TextBox W w.heap.size s p0 xs.length c0 B up := by
    refine ⟨?_, ?_, ?_, ?_⟩
    · rw [hW]; exact al_keep _ _ (by simp <;> omega) (al_keep _ _ (by simp <;> omega) (al_keep _ _ (by simp <;> omega) (al_at _ _ (by simp))))
    · rw [hW]; exact al_keep _ _ (by simp <;> omega) (al_keep _ _ (by simp <;> omega) (al_at _ _ (by simp)))
    · rw [hW]; exact al_keep _ _ (by simp <;> omega) (al_at _ _ (by simp))
    · rw [hW]; exact al_at _ _ (by simp)
  have HCALL := Lib.hid (call_any 96 #[.pointer (some ⟨w.heap.size, 0, none⟩), .pointer (some ⟨w.heap.size + 1, 0, none⟩), .pointer (some ⟨w.heap.size + 2, 0, none⟩), .pointer (some ⟨w.heap.size + 3, 0, none⟩)] W (fun c a w1 => a = 0 ∧ c = 0 ∧ Below w.heap.size w w1 ∧ W.heap.size + 2 ≤ w1.heap.size ∧ w1.heap[w.heap.size + 3]? = some (.cells #[.string T] 9 (0, 0))) (fun V hV hsV => by
    have hwV := hb.trans (hV.mono hb.size)
    refine (text1_ok w.heap.size s p0 xs.length c0 B up xs T V (hbox.move hV) (u0.below hwV) v0 h2 h36 (fun w' h => htx w' (hwV.trans (h.mono hwV.size)))).mono ?_
    rintro e w1 ⟨rfl, hgr, hcell⟩
    have hbw : Below w.heap.size w w1 := hwV.grown hgr hwV.size (fun j hj => by cases hj; omega)
    refine ⟨fun j j1 j2 => hgr.block j j2 (by intro hj; cases hj; omega), .inl ⟨rfl, rfl, rfl, hbw, by have := hgr.size; omega, hcell⟩⟩) (fun _ _ => by kernel_rfl))
  have HS := Lib.hid hs
  clear h0 v0 h2 h36 htx hb hs hbox u0
  go_enter Tryz.func40, Tryz.ntmps40
  go_wp2_with fail
  rw [← hW]
  clear hW
  refine HCALL.out.mono ?_
  rintro e w3 ⟨c, a', w1, rfl, ⟨rfl, rfl, hbw, hsz, hcell⟩, hcau⟩
  have s0 := HS.out
  have hb3 : Below w.heap.size w w3 := below_caught hbw hcau (by omega) (by omega) (by omega)
  have hcell3 : w3.heap[w.heap.size + 3]? = some (.cells #[.string T] 9 (0, 0)) := (hcau.same _ (by omega) (by omega) (by omega)).trans hcell
  have g0 := cell_of_one hcell3
  have f0 := free_of_one hcell3
  have HR := Lib.hid (And.intro hb3 hcell3)
  clear hbw hsz hcell hcau hb3 hcell3 HCALL s0
  go_wp2_with fail
  have hcell := cell_of_one (one_setCell (u := .string T) HR.out.2)
  refine bodyPost_ret (v := .tuple #[.string T, .int .i64 0]) (by simp [results, Tryz.results40, go_sem, hcell]) rfl ?_
  exact ⟨rfl, HR.out.1.setCell (p := ⟨w.heap.size + 3, 0, none⟩) (by show w.heap.size ≤ w.heap.size + 3; omega) _⟩

end Go.Proofs.YtkbghamkalidcaaGreat

namespace Go.Proofs.YtkbghamkalidcaaGreat
open Go.RowKit

theorem at_word1 (w : World) (t : TypeId) : At (w.alloc (.cells #[.int .u32 1] t)) (.slice (some ⟨w.heap.size, 0, none⟩) 1 1) (Nl.limbs 1) := by
  rw [limbs_one (by decide) (by decide)]
  refine .inr ⟨w.heap.size, 0, 1, rfl, trivial, by simp, by simp, by simp, fun i hi => ?_⟩
  obtain rfl : i = 0 := by simp at hi; omega
  exact cell_of_row _ _ 0 _ _ (0, 0) (heap_alloc_new _ _)

set_option maxHeartbeats 1000000 in
theorem ref2FromInt_any (n : Int) (w : World) (hn : isInt n) :
    Calls Tryz.prog 45 #[.int .i64 n] w fun e w' => (∃ t p l c, e = .returned (.agg #[.bool t, .slice p l c]) ∧ IsI w' (.agg #[.bool t, .slice p l c]) n) ∧ Below w.heap.size w w' := by
  obtain ⟨h1, h2⟩ := hn
  obtain ⟨W, hW⟩ : ∃ W, W = w.alloc (.cells #[.bool false, .slice none 0 0] 25) := ⟨_, rfl⟩
  have hbW : Below w.heap.size w W := by rw [hW]; exact below_one w _
  have hQ : W.heap[w.heap.size]? = some (.cells #[.bool false, .slice none 0 0] 25 (0, 0)) := by rw [hW]; exact heap_alloc_new _ _
  have HW := Lib.hid (And.intro hbW hQ)
  clear hbW hQ
  by_cases hneg : n < 0
  · obtain ⟨k, hk⟩ : ∃ k : Nat, n = -((k : Int) + 1) := ⟨(-(n + 1)).toNat, by omega⟩
    have hkb : k ≤ 9223372036854775807 := by omega
    have e0 : decide (n < 0) = true := decide_eq_true hneg
    have e1 : IntKind.i64.wrap (n + 1) = -(k : Int) := by rw [IntKind.wrap_i64]; omega
    have e2 : IntKind.i64.wrap (-(-(k : Int))) = (k : Int) := by rw [IntKind.wrap_i64]; omega
    have e2' : IntKind.i64.wrap (k : Int) = (k : Int) := by rw [IntKind.wrap_i64]; omega
    have e3 : IntKind.u64.wrap (k : Int) = (k : Int) := by rw [IntKind.wrap_u64]; omega
    have HO := Lib.hid (refOf_any k W (by omega))
    have HN := Lib.hid (show sgn true (k + 1) = n by rw [hk, sgn]; simp)
    have HKB := Lib.hid hkb
    clear hneg h1 h2 hk hkb
    go_enter Tryz.func45, Tryz.ntmps45
    go_wp2_with fail
    rw [← hW]
    clear hW
    refine HO.out.mono ?_
    rintro e w1 ⟨⟨v, rfl, hv⟩, hb1⟩
    obtain ⟨p, c, rfl, -⟩ := hv.at.form
    obtain ⟨W1, hW1⟩ : ∃ W1, W1 = w1.alloc (.cells #[.int .u32 1] 80) := ⟨_, rfl⟩
    have hb2 : Below w1.heap.size w1 W1 := by rw [hW1]; exact below_one _ _
    have a1 : At W1 (.slice (some ⟨w1.heap.size, 0, none⟩) 1 1) (Nl.limbs 1) := by rw [hW1]; exact at_word1 w1 _
    have hA := refAdd_any _ _ _ _ W1 ((show At w1 _ (Nl.limbs k) from hv.at.at).below hb2) a1 (Nl.limbs_small k) (Nl.limbs_small 1) (by have : (Nl.limbs k).length ≤ 2 := Nl.limbs_lt (by have := HKB.out; omega); omega) (by rw [limbs_one (by decide : (1 : Nat) ≠ 0) (by decide)]; decide)
    rw [Nl.val_limbs, Nl.val_limbs] at hA
    have HA := Lib.hid hA
    have HB := Lib.hid (hb1.trans (hb2.mono hb1.size))
    clear hv hb1 hb2 a1 hA HO
    go_wp2_with fail
    rw [← hW1]
    clear hW1
    refine HA.out.mono ?_
    rintro e w2 ⟨⟨v2, rfl, hv2⟩, hb2⟩
    have hO := ref2Of_any true v2 (k + 1) w2 hv2.at.at (by have : (Nl.limbs (k + 1)).length ≤ 2 := Nl.limbs_lt (by have := HKB.out; omega); omega)
    obtain ⟨p2, c2, rfl, -⟩ := hv2.at.form
    have HO := Lib.hid hO
    have HB2 := Lib.hid (HB.out.trans (hb2.mono HB.out.size))
    clear hv2 hb2 hO HA
    go_wp2_with fail
    refine HO.out.mono ?_
    rintro e w3 ⟨⟨t, p3, l3, c3, rfl, hi⟩, hb3⟩
    rw [show sgn true ↑(k + 1) = n from HN.out] at hi
    have hbq := HB2.out.trans (hb3.mono HB2.out.size)
    have BQ := (hbq.block _ (lt_of_block HW.out.2)).trans HW.out.2
    have f0 := frozen_of_row _ _ 0 _ _ BQ
    have f1 := frozen_of_row _ _ 1 _ _ BQ
    have g0 := cell_of_row _ _ 0 _ _ (0, 0) BQ
    have g1 := cell_of_row _ _ 1 _ _ (0, 0) BQ
    have HI := Lib.hid (And.intro hi (And.intro (HW.out.1.trans (hbq.mono HW.out.1.size)) BQ))
    clear hi hb3 hbq BQ HO
    go_wp2_with fail
    refine bodyPost_ret (v := .agg #[.bool t, .slice p3 l3 c3]) (results_cell_row Tryz.results45 _ _ w.heap.size 25 _ (0, 0) _ rfl (ibox_set _ _ HI.out.2.2) Tryz.underlying25 rfl (by kernel_rfl)) rfl ?_
    exact ⟨⟨_, _, _, _, rfl, isI_box HI.out.1 HI.out.2.2⟩, below_ibox HI.out.2.1 (Nat.le_refl _) _ _⟩
  · obtain ⟨k, hk⟩ : ∃ k : Nat, n = (k : Int) := ⟨n.toNat, by omega⟩
    subst hk
    have e0 : decide ((k : Int) < 0) = false := decide_eq_false hneg
    have e3 : IntKind.u64.wrap (k : Int) = (k : Int) := by rw [IntKind.wrap_u64]; omega
    have HO := Lib.hid (refOf_any k W (by omega))
    have HN := Lib.hid (show sgn false k = (k : Int) by rw [sgn]; simp)
    have HKB := Lib.hid h2
    clear hneg h1 h2
    go_enter Tryz.func45, Tryz.ntmps45
    go_wp2_with fail
    rw [← hW]
    clear hW
    refine HO.out.mono ?_
    rintro e w1 ⟨⟨v, rfl, hv⟩, hb1⟩
    have hO := ref2Of_any false v k w1 hv.at.at (by have : (Nl.limbs k).length ≤ 2 := Nl.limbs_lt (by have := HKB.out; omega); omega)
    obtain ⟨p2, c2, rfl, -⟩ := hv.at.form
    have HO := Lib.hid hO
    have HB := Lib.hid hb1
    clear hv hb1 hO
    go_wp2_with fail
    refine HO.out.mono ?_
    rintro e w3 ⟨⟨t, p3, l3, c3, rfl, hi⟩, hb3⟩
    rw [HN.out] at hi
    have hbq := HB.out.trans (hb3.mono HB.out.size)
    have BQ := (hbq.block _ (lt_of_block HW.out.2)).trans HW.out.2
    have f0 := frozen_of_row _ _ 0 _ _ BQ
    have f1 := frozen_of_row _ _ 1 _ _ BQ
    have g0 := cell_of_row _ _ 0 _ _ (0, 0) BQ
    have g1 := cell_of_row _ _ 1 _ _ (0, 0) BQ
    have HI := Lib.hid (And.intro hi (And.intro (HW.out.1.trans (hbq.mono HW.out.1.size)) BQ))
    clear hi hb3 hbq BQ HO
    go_wp2_with fail
    refine bodyPost_ret (v := .agg #[.bool t, .slice p3 l3 c3]) (results_cell_row Tryz.results45 _ _ w.heap.size 25 _ (0, 0) _ rfl (ibox_set _ _ HI.out.2.2) Tryz.underlying25 rfl (by kernel_rfl)) rfl ?_
    exact ⟨⟨_, _, _, _, rfl, isI_box HI.out.1 HI.out.2.2⟩, below_ibox HI.out.2.1 (Nat.le_refl _) _ _⟩
end Go.Proofs.YtkbghamkalidcaaGreat
