/-
  What guarded does, with the recover of guard.CallAt. Conditions: those that each theorem names.
-/
import Derived.Test.YtkbghamkalidcaaGreatValidAll
import Derived.Recover
import Derived.BigRegion
import Derived.Deep.RegionWith
import Derived.Deep.Cut
namespace Go.Proofs.YtkbghamkalidcaaGreat
open Go.RowKit

theorem catch_idle (p q : Addr) (w : World) :
    CallsD Tryz.prog 157 #[.pointer (some p), .pointer (some q)] .returning w fun e u' w' => e = .returned (.tuple #[]) ∧ u' = .returning ∧ w' = w := by
  refine callsD_of_wpS Tryz.func157 rfl fun c₀ cs hu => ?_
  apply wpS_seq
  apply wpS_region
  simp [wpOpsS, go_sem, recoverD, hu, Tryz.ntmps157, Exit.thenS]
  refine wpS_of_wp ?_
  go_wp2
  cases c₀
  simp_all [bodyPostS, results, Tryz.results157]
/-- what the world is when an error has been caught: the two variables hold it, and nothing else has changed -/
structure Caught (w w' : World) (P Q : Nat) (k a : Int) : Prop where
  cp : w'.heap[P]? = some (.cells #[.int .i64 k] 31 (0, 0))
  cq : w'.heap[Q]? = some (.cells #[.int .i64 a] 3 (0, 0))
  size : w.heap.size ≤ w'.heap.size
  os : w'.os = w.os
  tape : w'.tape = w.tape
  output : w'.output = w.output
  same : ∀ j, j < w.heap.size → j ≠ P → j ≠ Q → w'.heap[j]? = w.heap[j]?

theorem caught_set (w : World) (P Q : Nat) (x y k a : Int) (hne : ¬ Q = P) (hc : w.heap[P]? = some (.cells #[.int .i64 x] 31 (0, 0))) (hd : w.heap[Q]? = some (.cells #[.int .i64 y] 3 (0, 0))) :
    Caught w ((w.setCell ⟨P, 0, none⟩ (.int .i64 k)).setCell ⟨Q, 0, none⟩ (.int .i64 a)) P Q k a := by
  refine ⟨?_, ?_, ?_, rfl, rfl, rfl, fun j _ h1 h2 => ?_⟩
  · exact (Below.heap_setCell _ ⟨Q, 0, none⟩ _ P (fun h => hne h.symm)).trans (one_setCell hc)
  · exact one_setCell ((Below.heap_setCell _ ⟨P, 0, none⟩ _ Q hne).trans hd)
  · simp [World.setCell]
  · rw [Below.heap_setCell _ ⟨Q, 0, none⟩ _ j h2, Below.heap_setCell _ ⟨P, 0, none⟩ _ j h1]

set_option maxRecDepth 10000 in
theorem catch_fault (P Q : Nat) (k a : Int) (x y : Int) (older : List PanicEntry) (w : World) (hne : ¬ Q = P) (hc : w.heap[P]? = some (.cells #[.int .i64 x] 31 (0, 0))) (hd : w.heap[Q]? = some (.cells #[.int .i64 y] 3 (0, 0))) :
    CallsD Tryz.prog 157 #[.pointer (some ⟨P, 0, none⟩), .pointer (some ⟨Q, 0, none⟩)] (.panicking ({ v := .iface 177 (.agg #[.int .i64 k, .int .i64 a]), recovered := false } :: older)) w fun e u' w' =>
      e = .returned (.tuple #[]) ∧ u' = .panicking ({ v := .iface 177 (.agg #[.int .i64 k, .int .i64 a]), recovered := true } :: older) ∧ Caught w w' P Q k a := by
  have HC := Lib.hid (And.intro hc hd)
  clear hc hd
  refine callsD_of_wpS Tryz.func157 rfl fun c₀ cs hu => ?_
  apply wpS_seq
  apply wpS_region
  simp [wpOpsS, go_sem, recoverD, hu, Tryz.ntmps157, Exit.thenS]
  refine wpS_of_wp ?_
  have HU := Lib.hid hu
  clear hu
  have hta : ∀ w, (Instr.typeAssert (.iface 177 (.agg #[.int .i64 k, .int .i64 a])) 20 177 true).run Tryz.prog w = .ok (.tuple #[.agg #[.int .i64 k, .int .i64 a], .bool true]) w := fun _ => by kernel_rfl
  rw [show #[Value.pointer (some { block := P, off := 0 }), Value.pointer (some { block := Q, off := 0 })] ++ (Array.replicate 12 undef).setIfInBounds 3 (Value.iface 177 (.agg #[.int .i64 k, .int .i64 a])) =
    #[Value.pointer (some ⟨P, 0, none⟩), Value.pointer (some ⟨Q, 0, none⟩), undef, undef, undef, Value.iface 177 (.agg #[.int .i64 k, .int .i64 a]), undef, undef, undef, undef, undef, undef, undef, undef] from rfl]
  go_upto_region 7 with fail
  obtain ⟨w1, hw1⟩ : ∃ w1, w1 = w.alloc (.cells #[.int .i64 k, .int .i64 a] 177) := ⟨_, rfl⟩
  rw [← hw1]
  obtain ⟨g, hg⟩ : ∃ g, g = w.heap.size := ⟨_, rfl⟩
  rw [← hg]
  have hPl := lt_of_block HC.out.1
  have hQl := lt_of_block HC.out.2
  have hP1 : w1.heap[P]? = some (.cells #[.int .i64 x] 31 (0, 0)) := by rw [hw1]; exact (Below.heap_alloc _ _ _ hPl).trans HC.out.1
  have hQ1 : w1.heap[Q]? = some (.cells #[.int .i64 y] 3 (0, 0)) := by rw [hw1]; exact (Below.heap_alloc _ _ _ hQl).trans HC.out.2
  have hG1 : w1.heap[g]? = some (.cells #[.int .i64 k, .int .i64 a] 177 (0, 0)) := by rw [hw1, hg]; exact heap_alloc_new _ _
  have c1 := cell_of_one hP1
  have f1 := free_of_one hP1
  have c2 := cell_of_one hQ1
  have f2 := free_of_one hQ1
  have c3 : w1.cell? ⟨g, 0, none⟩ = some (.int .i64 k) := cell_of_row _ _ 0 _ _ (0, 0) hG1
  have c4 : w1.cell? ⟨g, 1, none⟩ = some (.int .i64 a) := cell_of_row _ _ 1 _ _ (0, 0) hG1
  have n1 : ¬ P = g := by omega
  have n2 : ¬ Q = g := by omega
  have n3 : ¬ g = P := by omega
  have n4 : ¬ g = Q := by omega
  have n5 : ¬ P = Q := fun h => hne h.symm
  have HW := Lib.hid hw1
  have H1 := Lib.hid (And.intro hP1 (And.intro hQ1 (And.intro hPl hQl)))
  clear hw1 hP1 hQ1 hG1 hPl hQl hg
  go_region
  have hcau : Caught w ((w1.setCell ⟨P, 0, none⟩ (.int .i64 k)).setCell ⟨Q, 0, none⟩ (.int .i64 a)).drew P Q k a := by
    have h := caught_set w1 P Q x y k a hne H1.out.1 H1.out.2.1
    have hs : w.heap.size ≤ w1.heap.size := by rw [HW.out]; simp
    refine ⟨h.cp, h.cq, Nat.le_trans hs h.size, ?_, ?_, ?_, fun j hj h1 h2 => (h.same j (Nat.lt_of_lt_of_le hj hs) h1 h2).trans ?_⟩
    · rw [HW.out]; rfl
    · rw [HW.out]; rfl
    · rw [HW.out]; rfl
    · rw [HW.out]; exact Below.heap_alloc _ _ _ hj
  have hu := HU.out
  clear HW H1 HC HU hta
  cases c₀
  simp_all +zetaDelta [bodyPostS, results, Tryz.results157, Exit.inBlock]

/-- what the work of a call that catches does: it returns, or ends in an error of the package's own; the blocks of the error's variables stay -/
def WorkOk (F : FuncId) (caps : Array Value) (w : World) (R : Int → Int → World → Prop) : Prop :=
  ∀ W, Below w.heap.size w W → W.heap.size = w.heap.size + 2 → Calls Tryz.prog F caps W fun e w' => (∀ j, w.heap.size ≤ j → j < W.heap.size → w'.heap[j]? = W.heap[j]?) ∧
    ((e = .returned (.tuple #[]) ∧ R 0 0 w') ∨ ∃ k a : Int, e = .panicked [{ v := .iface 177 (.agg #[.int .i64 k, .int .i64 a]), recovered := false }] ∧ R k a w')

set_option maxHeartbeats 1000000 in
theorem callAt_any (F : FuncId) (caps : Array Value) (w : World) (R : Int → Int → World → Prop) (h : WorkOk F caps w R) (hF : ∀ args w, (callFunc F args).run Tryz.prog w = .ok (.enter F args) w) :
    Calls Tryz.prog 100 #[.func (.func F) #[] caps] w fun e w' => ∃ (k a : Int) (w1 : World), e = .returned (.tuple #[.int .i64 k, .int .i64 a]) ∧ R k a w1 ∧ Caught w1 w' w.heap.size (w.heap.size + 1) k a := by
  have hmf : ∀ (fn : Fn) (first cap : Array Value) (w : World), (Instr.makeFunc fn first cap).run Tryz.prog w = .ok (.func fn first cap) w := fun _ _ _ _ => rfl
  obtain ⟨W, hW⟩ : ∃ W, W = (w.alloc (.cells #[.int .i64 0] 31)).alloc (.cells #[.int .i64 0] 3) := ⟨_, rfl⟩
  have hbW : Below w.heap.size w W := by rw [hW]; exact ((Below.refl _ _).alloc (Nat.le_refl _) _).alloc (by simp) _
  have hsW : W.heap.size = w.heap.size + 2 := by rw [hW]; simp
  have hP : W.heap[w.heap.size]? = some (.cells #[.int .i64 0] 31 (0, 0)) := by rw [hW]; exact heap_alloc2_old w _ _
  have hQ : W.heap[w.heap.size + 1]? = some (.cells #[.int .i64 0] 3 (0, 0)) := by rw [hW]; exact heap_alloc2_new w _ _
  have H := Lib.hid (h W hbW hsW)
  have HS := Lib.hid (And.intro hsW (And.intro hP hQ))
  clear h hbW hsW hP hQ
  go_enter_defers Tryz.func100, Tryz.ntmps100
  go_wp2_with fail
  rw [← hW]
  clear hW
  refine H.out.mono ?_
  rintro e w1 ⟨hblk, ⟨rfl, hR⟩ | ⟨k, a, rfl, hR⟩⟩
  · have hP1 := (hblk w.heap.size (Nat.le_refl _) (by rw [HS.out.1]; omega)).trans HS.out.2.1
    have hQ1 := (hblk (w.heap.size + 1) (by omega) (by rw [HS.out.1]; omega)).trans HS.out.2.2
    have c1 := cell_of_one hP1
    have f1 := free_of_one hP1
    have c2 := cell_of_one hQ1
    have f2 := free_of_one hQ1
    have H1 := Lib.hid (And.intro hP1 (And.intro hQ1 hR))
    clear hblk hR hP1 hQ1
    go_wp2_with fail
    obtain ⟨w2, hw2⟩ : ∃ w2, w2 = (w1.setCell ⟨w.heap.size, 0, none⟩ (.int .i64 0)).setCell ⟨w.heap.size + 1, 0, none⟩ (.int .i64 0) := ⟨_, rfl⟩
    rw [← hw2]
    have hcau : Caught w1 w2 w.heap.size (w.heap.size + 1) 0 0 := by rw [hw2]; exact caught_set w1 _ _ 0 0 0 0 (by omega) H1.out.1 H1.out.2.1
    clear hw2
    refine leaves_cons (f := 157) (args := #[.pointer (some ⟨w.heap.size, 0, none⟩), .pointer (some ⟨w.heap.size + 1, 0, none⟩)]) (by simp) (by simp [go_sem]) ?_
    refine (catch_idle ⟨w.heap.size, 0, none⟩ ⟨w.heap.size + 1, 0, none⟩ _).mono ?_
    rintro e u' w'' ⟨rfl, rfl, rfl⟩
    have k1 := cell_of_one hcau.cp
    have k2 := cell_of_one hcau.cq
    have hR := H1.out.2.2
    simp [Leaves, settle, results, Tryz.results100, go_sem, k1, k2]
    exact ⟨0, 0, ⟨rfl, rfl⟩, w1, hR, hcau⟩
  · have hP1 := (hblk w.heap.size (Nat.le_refl _) (by rw [HS.out.1]; omega)).trans HS.out.2.1
    have hQ1 := (hblk (w.heap.size + 1) (by omega) (by rw [HS.out.1]; omega)).trans HS.out.2.2
    refine leaves_cons (f := 157) (args := #[.pointer (some ⟨w.heap.size, 0, none⟩), .pointer (some ⟨w.heap.size + 1, 0, none⟩)]) (by simp) (by simp [go_sem]) ?_
    refine (catch_fault w.heap.size (w.heap.size + 1) k a 0 0 [] w1 (by omega) hP1 hQ1).mono ?_
    rintro e u' w'' ⟨rfl, rfl, hcau⟩
    have k1 := cell_of_one hcau.cp
    have k2 := cell_of_one hcau.cq
    simp [Leaves, settle, results, Tryz.results100, go_sem, k1, k2]
    exact ⟨k, a, ⟨rfl, rfl⟩, w1, hR, hcau⟩

set_option maxHeartbeats 1000000 in
theorem call_any (F : FuncId) (caps : Array Value) (w : World) (R : Int → Int → World → Prop) (h : WorkOk F caps w R) (hF : ∀ args w, (callFunc F args).run Tryz.prog w = .ok (.enter F args) w) :
    Calls Tryz.prog 74 #[.func (.func F) #[] caps] w fun e w' => ∃ (k a : Int) (w1 : World), e = .returned (.int .i64 k) ∧ R k a w1 ∧ Caught w1 w' w.heap.size (w.heap.size + 1) k a := by
  have H := Lib.hid (callAt_any F caps w R h hF)
  clear h
  go_enter Tryz.func74, Tryz.ntmps74
  go_wp2_with fail
  refine H.out.mono ?_
  rintro e w2 ⟨k, a, w1, rfl, hR, hc⟩
  have HR := Lib.hid (And.intro hR hc)
  clear hR hc H
  go_wp2_with fail
  go_ret
  exact ⟨k, a, w1, rfl, HR.out.1, HR.out.2⟩

/-- the numbers that a guarded call looks at -/
def Given (w : World) (b : Nat) (vs : List (Value × List Nat)) : Prop := ∀ i, i < vs.length → w.cell? ⟨b, i, none⟩ = some (vs.getD i (.nilFunc, [])).1 ∧ At w (vs.getD i (.nilFunc, [])).1 (vs.getD i (.nilFunc, [])).2

/-- what the work of a guarded call does: it returns, or ends in an error of the package's own; the blocks that guarded and CallAt have made stay -/
def GuardOk (F : FuncId) (caps : Array Value) (w : World) (R : Int → World → Prop) : Prop :=
  ∀ W, Below w.heap.size w W → W.heap.size = w.heap.size + 4 → Calls Tryz.prog F caps W fun e w' => (∀ j, w.heap.size ≤ j → j < W.heap.size → w'.heap[j]? = W.heap[j]?) ∧
    ((e = .returned (.tuple #[]) ∧ R 0 w') ∨ ∃ k : Int, e = .panicked [{ v := .iface 177 (.agg #[.int .i64 k, .int .i64 0]), recovered := false }] ∧ R k w')

set_option maxHeartbeats 2000000 in
/-- the closure in guarded -/
theorem guarded1_any (F : FuncId) (caps : Array Value) (w0 w : World) (a : Option Addr) (b : Nat) (vs : List (Value × List Nat)) (R : Int → World → Prop) (hvl : vs.length ≤ 100) (hbw : Below w0.heap.size w0 w) (hsw : w.heap.size = w0.heap.size + 4) (ha : 0 < vs.length → a = some ⟨b, 0, none⟩ ∧ b < w0.heap.size) (hg : Given w0 b vs)
    (hG : w.heap[w0.heap.size + 1]? = some (.cells #[.slice a vs.length vs.length] 221 (0, 0))) (hK : w.heap[w0.heap.size]? = some (.cells #[.func (.func F) #[] caps] 1 (0, 0)))
    (h : (∀ p ∈ vs, validB p.2 = true) → GuardOk F caps w0 R) (hno : ∀ W, Below w0.heap.size w0 W → W.heap.size = w0.heap.size + 4 → (∃ p ∈ vs, validB p.2 = false) → R 1 W)
    (hF : ∀ args w, (callFunc F args).run Tryz.prog w = .ok (.enter F args) w) :
    Calls Tryz.prog 244 #[.pointer (some ⟨w0.heap.size + 1, 0, none⟩), .pointer (some ⟨w0.heap.size, 0, none⟩)] w fun e w' => (∀ j, w0.heap.size ≤ j → j < w.heap.size → w'.heap[j]? = w.heap[j]?) ∧
    ((e = .returned (.tuple #[]) ∧ R 0 w') ∨ ∃ k : Int, e = .panicked [{ v := .iface 177 (.agg #[.int .i64 k, .int .i64 0]), recovered := false }] ∧ R k w') := by
  have g0 := cell_of_one hG
  have k0 := cell_of_one hK
  have H := Lib.hid h
  have HN := Lib.hid hno
  have HG := Lib.hid hg
  have HA := Lib.hid ha
  have HB := Lib.hid (And.intro hbw hsw)
  clear h hno hg ha hG hK hbw hsw
  go_enter Tryz.func244, Tryz.ntmps244
  go_wp2_with fail
  go_loop [6] (fun i => ∃ k : Nat, k ≤ vs.length ∧ i = .int .i64 k ∧ Hid (∀ j, j < k → validB (vs.getD j (.nilFunc, [])).2 = true)) (fun i => vs.length - (intOf i).toNat)
  case atStart => exact ⟨0, Nat.zero_le _, rfl, fun j hj => by omega⟩
  case round =>
    obtain ⟨k, hk, rfl, hval⟩ := hrel
    by_cases hlt : k < vs.length
    · obtain ⟨rfl, hbl⟩ := HA.out (by omega)
      obtain ⟨g1, g2⟩ := HG.out k hlt
      have c1 := (HB.out.1.cell (p := ⟨b, k, none⟩) hbl).trans g1
      have g3 := g2.below HB.out.1
      obtain ⟨v, hv⟩ : ∃ v, v = (vs.getD k (.nilFunc, [])).1 := ⟨_, rfl⟩
      obtain ⟨xs, hxs⟩ : ∃ xs, xs = (vs.getD k (.nilFunc, [])).2 := ⟨_, rfl⟩
      rw [← hv] at c1 g3
      rw [← hxs] at g3
      have G3 := Lib.hid g3
      have HX := Lib.hid hxs
      have hmem : vs.getD k (.nilFunc, []) ∈ vs := by
        rw [show vs.getD k (.nilFunc, []) = vs[k] from by simp [hlt]]
        exact List.getElem_mem hlt
      have HM := Lib.hid hmem
      clear g1 g2 g3 hv hxs hmem
      cases hb : validB xs with
      | true =>
        have HVB := Lib.hid hb
        clear hb
        go_wp2_with fail
        refine (valid_any v xs _ G3.out).mono ?_
        rintro e w' ⟨rfl, rfl⟩
        rw [HVB.out]
        go_wp2_with fail
        refine (must_yes _ _).mono ?_
        rintro e w' ⟨rfl, rfl⟩
        go_wp2_with fail
        go_round
        case rel =>
          refine ⟨k + 1, by omega, by go_num, fun j hj => ?_⟩
          rcases Nat.lt_or_eq_of_le (Nat.le_of_lt_succ hj) with hj | rfl
          · exact hval.out j hj
          · rw [← HX.out]; exact HVB.out
        case measure => simp [intOf] <;> omega
      | false =>
        have HVB := Lib.hid hb
        clear hb
        go_wp2_with fail
        refine (valid_any v xs _ G3.out).mono ?_
        rintro e w' ⟨rfl, rfl⟩
        rw [HVB.out]
        go_wp2_with fail
        refine (must_no _ _).mono ?_
        rintro e w' ⟨rfl, rfl⟩
        have hR : R 1 w := HN.out w HB.out.1 HB.out.2 ⟨_, HM.out, by rw [← HX.out]; exact HVB.out⟩
        first
          | exact ⟨rfl, fun _ _ _ => rfl, .inr ⟨1, rfl, hR⟩⟩
          | exact ⟨fun _ _ _ => rfl, .inr ⟨1, rfl, hR⟩⟩
    · have hall : ∀ p ∈ vs, validB p.2 = true := by
        intro p hp
        obtain ⟨j, hj, rfl⟩ := List.getElem_of_mem hp
        have := hval.out j (by omega)
        rwa [show vs.getD j (.nilFunc, []) = vs[j] from by simp [hj]] at this
      have hwork := Lib.hid (H.out hall w HB.out.1 HB.out.2)
      clear hall
      go_wp2_with fail
      refine hwork.out.mono ?_
      rintro e w1 ⟨hblk, ⟨rfl, hR⟩ | ⟨k', rfl, hR⟩⟩
      · have HR := Lib.hid (And.intro hblk hR)
        clear hblk hR
        go_wp2_with fail
        go_end0
        exact ⟨HR.out.1, .inl ⟨rfl, HR.out.2⟩⟩
      · first
          | exact ⟨rfl, hblk, .inr ⟨k', rfl, hR⟩⟩
          | exact ⟨hblk, .inr ⟨k', rfl, hR⟩⟩

set_option maxHeartbeats 2000000 in
theorem guarded_any (F : FuncId) (caps : Array Value) (w : World) (a : Option Addr) (b : Nat) (vs : List (Value × List Nat)) (R : Int → World → Prop) (hvl : vs.length ≤ 100) (ha : 0 < vs.length → a = some ⟨b, 0, none⟩ ∧ b < w.heap.size) (hg : Given w b vs)
    (h : (∀ p ∈ vs, validB p.2 = true) → GuardOk F caps w R) (hno : ∀ W, Below w.heap.size w W → W.heap.size = w.heap.size + 4 → (∃ p ∈ vs, validB p.2 = false) → R 1 W)
    (hF : ∀ args w, (callFunc F args).run Tryz.prog w = .ok (.enter F args) w) :
    Calls Tryz.prog 220 #[.func (.func F) #[] caps, .slice a vs.length vs.length] w fun e w' => ∃ (k : Int) (w1 : World), e = .returned (.int .i64 k) ∧ R k w1 ∧ Caught w1 w' (w.heap.size + 2) (w.heap.size + 3) k 0 := by
  have hmf : ∀ (fn : Fn) (first cap : Array Value) (w : World), (Instr.makeFunc fn first cap).run Tryz.prog w = .ok (.func fn first cap) w := fun _ _ _ _ => rfl
  obtain ⟨W, hW⟩ : ∃ W, W = (w.alloc (.cells #[.func (.func F) #[] caps] 1)).alloc (.cells #[.slice a vs.length vs.length] 221) := ⟨_, rfl⟩
  have hbW : Below w.heap.size w W := by rw [hW]; exact ((Below.refl _ _).alloc (Nat.le_refl _) _).alloc (by simp) _
  have hsW : W.heap.size = w.heap.size + 2 := by rw [hW]; simp
  have hP : W.heap[w.heap.size]? = some (.cells #[.func (.func F) #[] caps] 1 (0, 0)) := by rw [hW]; exact heap_alloc2_old w _ _
  have hQ : W.heap[w.heap.size + 1]? = some (.cells #[.slice a vs.length vs.length] 221 (0, 0)) := by rw [hW]; exact heap_alloc2_new w _ _
  have H := Lib.hid (call_any 244 #[.pointer (some ⟨w.heap.size + 1, 0, none⟩), .pointer (some ⟨w.heap.size, 0, none⟩)] W (fun k a w' => a = 0 ∧ R k w') (fun V hV hsV => by
    have hs4 : V.heap.size = w.heap.size + 4 := by omega
    have hb4 : Below w.heap.size w V := hbW.trans (hV.mono (by omega))
    refine (guarded1_any F caps w V a b vs R hvl hb4 hs4 ha hg ((hV.block _ (by omega)).trans hQ) ((hV.block _ (by omega)).trans hP) h hno hF).mono ?_
    rintro e w' ⟨h1, ⟨rfl, h2⟩ | ⟨k, rfl, h2⟩⟩
    · exact ⟨fun j hj hj2 => h1 j (by omega) hj2, .inl ⟨rfl, rfl, h2⟩⟩
    · exact ⟨fun j hj hj2 => h1 j (by omega) hj2, .inr ⟨k, 0, rfl, rfl, h2⟩⟩) (fun _ _ => by kernel_rfl))
  have HS := Lib.hid hsW
  clear h hno hg ha hbW hsW hP hQ
  go_enter Tryz.func220, Tryz.ntmps220
  go_wp2_with fail
  rw [← hW]
  clear hW
  refine H.out.mono ?_
  rintro e w2 ⟨k, a', w1, rfl, ⟨rfl, hR⟩, hc⟩
  have HR := Lib.hid (And.intro hR hc)
  clear hR hc H
  go_wp2_with fail
  go_ret
  have hc := HR.out.2
  rw [HS.out] at hc
  exact ⟨k, w1, rfl, HR.out.1, hc⟩
end Go.Proofs.YtkbghamkalidcaaGreat
