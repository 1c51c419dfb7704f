/-
  What guarded does, with its recover. Conditions: those that each theorem names.
-/
import Derived.Test.YtbmncbiidegagaaGreatDoorValid
import Derived.Recover
namespace Go.Proofs.YtbmncbiidegagaaGreatDoor
open Go.RowKit

theorem catch_idle (p : Addr) (w : World) :
    CallsD Tryz.prog 89 #[.pointer (some p)] .returning w fun e u' w' => e = .returned (.tuple #[]) ∧ u' = .returning ∧ w' = w := by
  refine callsD_of_wpS Tryz.func89 rfl fun c₀ cs hu => ?_
  apply wpS_seq
  apply wpS_region
  simp [wpOpsS, go_sem, recoverD, hu, Tryz.ntmps89, Exit.thenS]
  refine wpS_of_wp ?_
  go_wp2
  cases c₀
  simp_all [bodyPostS, results, Tryz.results89]
set_option maxRecDepth 10000 in
theorem catch_errno (p : Addr) (k : Int) (x : Int) (older : List PanicEntry) (w : World) (hc : w.cell? p = some (.int .i64 x)) (hz : w.frozen? p = false) :
    CallsD Tryz.prog 89 #[.pointer (some p)] (.panicking ({ v := .iface 27 (.int .i64 k), recovered := false } :: older)) w fun e u' w' =>
      e = .returned (.tuple #[]) ∧ u' = .panicking ({ v := .iface 27 (.int .i64 k), recovered := true } :: older) ∧ w' = w.setCell p (.int .i64 k) := by
  refine callsD_of_wpS Tryz.func89 rfl fun c₀ cs hu => ?_
  apply wpS_seq
  apply wpS_region
  simp [wpOpsS, go_sem, recoverD, hu, Tryz.ntmps89, Exit.thenS]
  refine wpS_of_wp ?_
  have HU := Lib.hid hu
  clear hu
  have hta : ∀ w, (Instr.typeAssert (.iface 27 (.int .i64 k)) 20 27 true).run Tryz.prog w = .ok (.tuple #[.int .i64 k, .bool true]) w := fun _ => by kernel_rfl
  rw [show #[Value.pointer (some p)] ++ (Array.replicate 9 undef).setIfInBounds 3 (Value.iface 27 (.int .i64 k)) = #[Value.pointer (some p), undef, undef, undef, Value.iface 27 (.int .i64 k), undef, undef, undef, undef, undef] from rfl]
  go_wp2_with fail
  have hu := HU.out
  cases c₀
  simp_all [bodyPostS, results, Tryz.results89]

/-- what the work of a guarded call does: it returns, or ends in one of the package's own errors; the block of the error's variable stays -/
def WorkOk (F : FuncId) (caps : Array Value) (w : World) (R : Int → World → Prop) : Prop :=
  ∀ W, W = w.alloc (.cells #[.int .i64 0] 27) → Calls Tryz.prog F caps W fun e w' => w'.heap[w.heap.size]? = W.heap[w.heap.size]? ∧
    ((e = .returned (.tuple #[]) ∧ R 0 w') ∨ ∃ k : Int, e = .panicked [{ v := .iface 27 (.int .i64 k), recovered := false }] ∧ R k w')

theorem block_cell {w : World} {B : Nat} {v : Value} {T : TypeId} (h : w.heap[B]? = some (.cells #[v] T (0, 0))) : w.cell? ⟨B, 0, none⟩ = some v ∧ w.frozen? ⟨B, 0, none⟩ = false := ⟨cell_of_one h, free_of_one h⟩

/-- the numbers that a guarded call looks at -/
def Given (w : World) (b : Nat) (vs : List (Value × List Nat)) : Prop := ∀ i, i < vs.length → w.cell? ⟨b, i, none⟩ = some (vs.getD i (.nilFunc, [])).1 ∧ At w (vs.getD i (.nilFunc, [])).1 (vs.getD i (.nilFunc, [])).2

set_option maxHeartbeats 2000000 in
theorem guarded_any (F : FuncId) (caps : Array Value) (w : World) (a : Option Addr) (b : Nat) (vs : List (Value × List Nat)) (R : Int → World → Prop) (hvl : vs.length ≤ 100) (ha : 0 < vs.length → a = some ⟨b, 0, none⟩ ∧ b < w.heap.size) (hg : Given w b vs)
    (h : (∀ p ∈ vs, validB p.2 = true) → WorkOk F caps w R) (hno : ∀ W, W = w.alloc (.cells #[.int .i64 0] 27) → (∃ p ∈ vs, validB p.2 = false) → R 1 W)
    (hF : ∀ args w, (callFunc F args).run Tryz.prog w = .ok (.enter F args) w) :
    Calls Tryz.prog 66 #[.func (.func F) #[] caps, .slice a vs.length vs.length] w fun e w' => ∃ (k : Int) (w1 : World), e = .returned (.int .i64 k) ∧ R k w1 ∧ w' = w1.setCell ⟨w.heap.size, 0, none⟩ (.int .i64 k) := by
  have hmf : ∀ (fn : Fn) (first cap : Array Value) (w : World), (Instr.makeFunc fn first cap).run Tryz.prog w = .ok (.func fn first cap) w := fun _ _ _ _ => rfl
  have H := Lib.hid h
  have HN := Lib.hid hno
  have HG := Lib.hid hg
  have HA := Lib.hid ha
  clear h hno hg ha
  go_enter_defers Tryz.func66, Tryz.ntmps66
  go_wp2_with fail
  obtain ⟨W, hW⟩ : ∃ W, W = w.alloc (.cells #[.int .i64 0] 27) := ⟨_, rfl⟩
  rw [← hW]
  have hbW : Below w.heap.size w W := by rw [hW]; exact (Below.refl _ _).alloc (Nat.le_refl _) _
  have hBW : W.heap[w.heap.size]? = some (.cells #[.int .i64 0] 27 (0, 0)) := by rw [hW]; exact heap_alloc_new w _
  have HW := Lib.hid hW
  have HBL := Lib.hid hbW
  have HBW := Lib.hid hBW
  clear hW hbW hBW
  go_loop [10] (fun i => ∃ k : Nat, k ≤ vs.length ∧ i = .int .i64 k ∧ Hid (∀ j, j < k → validB (vs.getD j (.nilFunc, [])).2 = true)) (fun i => vs.length - (intOf i).toNat)
  case atStart => exact ⟨0, Nat.zero_le _, rfl, fun j hj => by omega⟩
  case round =>
    obtain ⟨k, hk, rfl, hval⟩ := hrel
    by_cases hlt : k < vs.length
    · obtain ⟨rfl, hbl⟩ := HA.out (by omega)
      obtain ⟨g1, g2⟩ := HG.out k hlt
      have c1 := (HBL.out.cell (p := ⟨b, k, none⟩) hbl).trans g1
      have g3 := g2.below HBL.out
      obtain ⟨v, hv⟩ : ∃ v, v = (vs.getD k (.nilFunc, [])).1 := ⟨_, rfl⟩
      obtain ⟨xs, hxs⟩ : ∃ xs, xs = (vs.getD k (.nilFunc, [])).2 := ⟨_, rfl⟩
      rw [← hv] at c1 g3
      rw [← hxs] at g3
      have G3 := Lib.hid g3
      have HX := Lib.hid hxs
      have hmem : vs.getD k (.nilFunc, []) ∈ vs := by
        rw [show vs.getD k (.nilFunc, []) = vs[k] from by simp [hlt]]
        exact List.getElem_mem hlt
      have HM := Lib.hid hmem
      clear g1 g2 g3 hv hxs hmem
      cases hb : validB xs with
      | true =>
        have HVB := Lib.hid hb
        clear hb
        go_wp2_with fail
        refine (valid_any v xs _ G3.out).mono ?_
        rintro e w' ⟨rfl, rfl⟩
        rw [HVB.out]
        go_wp2_with fail
        refine (must_yes _ _).mono ?_
        rintro e w' ⟨rfl, rfl⟩
        go_wp2_with fail
        go_round
        case rel =>
          refine ⟨k + 1, by omega, by go_num, fun j hj => ?_⟩
          rcases Nat.lt_or_eq_of_le (Nat.le_of_lt_succ hj) with hj | rfl
          · exact hval.out j hj
          · rw [← HX.out]; exact HVB.out
        case measure => simp [intOf] <;> omega
      | false =>
        have HVB := Lib.hid hb
        clear hb
        go_wp2_with fail
        refine (valid_any v xs _ G3.out).mono ?_
        rintro e w' ⟨rfl, rfl⟩
        rw [HVB.out]
        go_wp2_with fail
        refine (must_no _ _).mono ?_
        rintro e w' ⟨rfl, rfl⟩
        refine leaves_cons (f := 89) (args := #[.pointer (some ⟨w.heap.size, 0, none⟩)]) (by simp) (by simp [go_sem]) ?_
        refine (catch_errno ⟨w.heap.size, 0, none⟩ 1 0 [] W (cell_of_one HBW.out) (free_of_one HBW.out)).mono ?_
        rintro e u' w'' ⟨rfl, rfl, rfl⟩
        have hR : R 1 W := HN.out W HW.out ⟨_, HM.out, by rw [← HX.out]; exact HVB.out⟩
        have hcell : (W.setCell ⟨w.heap.size, 0, none⟩ (.int .i64 1)).cell? ⟨w.heap.size, 0, none⟩ = some (.int .i64 1) := World.cell?_setCell_same' _ _ _ (by rw [cell_of_one HBW.out]; rfl)
        simp [Leaves, settle, results, Tryz.results66, go_sem, hcell]
        exact ⟨W, hR, rfl⟩
    · have hall : ∀ p ∈ vs, validB p.2 = true := by
        intro p hp
        obtain ⟨j, hj, rfl⟩ := List.getElem_of_mem hp
        have := hval.out j (by omega)
        rwa [show vs.getD j (.nilFunc, []) = vs[j] from by simp [hj]] at this
      have hwork := Lib.hid (H.out hall W HW.out)
      clear hall
      go_wp2_with fail
      refine hwork.out.mono ?_
      rintro e w1 ⟨hblk, ⟨rfl, hR⟩ | ⟨k', rfl, hR⟩⟩
      · have hblk2 : w1.heap[w.heap.size]? = some (.cells #[.int .i64 0] 27 (0, 0)) := hblk.trans HBW.out
        have hc1 := cell_of_one hblk2
        have hf1 := free_of_one hblk2
        have HB1 := Lib.hid hblk2
        have HR := Lib.hid hR
        clear hblk hblk2 hR
        go_wp2_with fail
        refine leaves_cons (f := 89) (args := #[.pointer (some ⟨w.heap.size, 0, none⟩)]) (by simp) (by simp [go_sem]) ?_
        refine (catch_idle ⟨w.heap.size, 0, none⟩ _).mono ?_
        rintro e u' w'' ⟨rfl, rfl, rfl⟩
        have hcell : (w1.setCell ⟨w.heap.size, 0, none⟩ (.int .i64 0)).cell? ⟨w.heap.size, 0, none⟩ = some (.int .i64 0) := World.cell?_setCell_same' _ _ _ (by rw [cell_of_one HB1.out]; rfl)
        simp [Leaves, settle, results, Tryz.results66, go_sem, hcell]
        exact ⟨w1, HR.out, rfl⟩
      · have hblk2 : w1.heap[w.heap.size]? = some (.cells #[.int .i64 0] 27 (0, 0)) := hblk.trans HBW.out
        refine leaves_cons (f := 89) (args := #[.pointer (some ⟨w.heap.size, 0, none⟩)]) (by simp) (by simp [go_sem]) ?_
        refine (catch_errno ⟨w.heap.size, 0, none⟩ k' 0 [] w1 (cell_of_one hblk2) (free_of_one hblk2)).mono ?_
        rintro e u' w'' ⟨rfl, rfl, rfl⟩
        have hcell : (w1.setCell ⟨w.heap.size, 0, none⟩ (.int .i64 k')).cell? ⟨w.heap.size, 0, none⟩ = some (.int .i64 k') := World.cell?_setCell_same' _ _ _ (by rw [cell_of_one hblk2]; rfl)
        simp [Leaves, settle, results, Tryz.results66, go_sem, hcell]
        exact ⟨w1, hR, rfl⟩
end Go.Proofs.YtbmncbiidegagaaGreatDoor
