/-
  A law for loops over an iterator that changes rows of its own. Conditions: those that each theorem names.
-/
import Derived.Test.YtikgfdkaikpmhaaGreatDigits
import Derived.RangeFuncWrites
namespace Go.Proofs.YtikgfdkaikpmhaaGreat
open Go.RowKit

/-- what an iterator over bytes promises: it yields the bytes xs, whatever a round does that keeps the rows of words; it changes rows of words of its own alone -/
def Yields (m : Nat) (G : FuncId) (lb : Array Value) (xs : List Nat) (w : World) : Prop :=
  ∀ (l : Nat) (J : List Nat → World → Prop) (W : World), Below w.heap.size w W → AbidesWords W.heap.size J →
    (∀ pre x W1, J pre W1 → x < 256 → pre.length < xs.length → YieldAt Fence.wide (m - 1) Tryz.prog l #[.int .u8 ((x : Nat) : Int)] W1 fun e W' => e = .returned (.bool true) ∧ J (pre ++ [x]) W' ∧ KeepWords W1 W') →
    J [] W → CallsIn Fence.wide m Tryz.prog G (#[.func (.yield l) #[] #[]] ++ lb) W fun e W' => (∃ v, e = .returned v) ∧ J xs W'
/-- how a round ends -/
def RoundEnds (B : Nat) (I : List Nat → World → Prop) (xs : List Nat) (W : World) : Exit → Act → World → Prop
  | .normal, _, W' => KeepsFrom B W W' ∧ KeepWords W W' ∧ I xs W'
  | _, _, _ => False

theorem KeepWords.trans {A B C : World} (h : KeepWords A B) (k : KeepWords B C) : KeepWords A C := ⟨Nat.le_trans h.1 k.1, fun g cs fz hg => k.2 g cs fz (h.2 g cs fz hg)⟩
/-- an object that is no row is turned -/
theorem KeepWords.turned {W : World} {l : Nat} {o o' : Obj} (hl : W.heap[l]? = some o) (ho : o.isCells = false) : KeepWords W (W.putObj l o') := by
  refine ⟨by simp, fun g cs fz hg => ?_⟩
  by_cases h : g = l
  · subst h
    rw [hg] at hl
    cases hl
    cases ho
  · exact (World.putObj_heap_other h).trans hg

/-- a loop over such an iterator whose body never leaves it -/
theorem wpIn_range_bytes {n : Nat} {g : Operand} {ps : Array Tmp} {assign body : Code} {Q : Exit → Act → World → Prop} {a : Act} {w : World} {G : FuncId} {lb : Array Value} {xs : List Nat}
    (hg : a.eval g = .func (.func G) #[] lb) (hG : ∀ args w, (callFunc G args).run Tryz.prog w = .ok (.enter G args) w) (hn : 1 ≤ n) (hy : Yields (n - 1) G lb xs w) (hps : ps.size = 1)
    (I : List Nat → World → Prop) (hIw : AbidesWords w.heap.size I) (hIo : OwnFrom w.heap.size I) (h0 : I [] w) (a₁ : Nat → Act)
    (hassign : ∀ (l x : Nat) (W : World) (K : Act → World → Prop), K (a₁ x) W →
      assign.wpIn (Fence.wide.inRound l) (n - 1 - 1) Tryz.prog (Exit.then K (fun _ _ _ => False)) { tmps := (ps.zip #[Value.int .u8 ((x : Nat) : Int)]).foldl (fun t (p, v) => t.setIfInBounds p v) a.tmps, defers := [] } W)
    (hbody : ∀ (l : Nat) (pre : List Nat) (x : Nat) (W : World), I pre W → x < 256 → pre.length < xs.length → w.heap.size ≤ W.heap.size → body.wpIn (Fence.wide.inRound l) (n - 1 - 1) Tryz.prog (RoundEnds w.heap.size I (pre ++ [x]) W) (a₁ x) W)
    (hdone : ∀ W, I xs W → W.heap[w.heap.size]? = some (.deferred (some [])) → Q .normal { a with defers := { target := .collected w.heap.size, args := #[] } :: a.defers } W) :
    (Code.rangeFunc g ps assign body).wpIn Fence.wide n Tryz.prog Q a w := by
  refine wpIn_rangeFunc fun fn hfn => ?_
  obtain ⟨rc, hrc⟩ : ∃ rc : LoopState → Option Code → Loop, rc = fun st pe => { state := st, pending := pe, fn, tmps := a.tmps, params := ps, assign, body, defers := w.heap.size } := ⟨_, rfl⟩
  obtain ⟨W1, hW1⟩ : ∃ W1, W1 = (w.alloc (.deferred (some []))).alloc (.loop (rc .ready none)) := ⟨_, rfl⟩
  have hs1 : W1.heap.size = w.heap.size + 2 := by rw [hW1]; simp
  have hD1 : W1.heap[w.heap.size]? = some (.deferred (some [])) := by rw [hW1]; exact heap_alloc2_old w _ _
  have hL1 : W1.heap[w.heap.size + 1]? = some (.loop (rc .ready none)) := by rw [hW1]; exact heap_alloc2_new w _ _
  have hI1 : I [] W1 := by rw [hW1]; exact hIo.alloc _ (hIo.alloc _ h0)
  have hb1 : Below w.heap.size w W1 := by rw [hW1]; exact ((Below.refl _ w).alloc (Nat.le_refl _) _).alloc (by simp) _
  refine ⟨w.heap.size + 1, [{ target := .collected w.heap.size, args := #[] }], W1, { target := .fn (.func G) lb, args := #[.func (.yield (w.heap.size + 1)) #[] #[]] }, W1, G,
    #[.func (.yield (w.heap.size + 1)) #[] #[]] ++ lb, W1, ?_, ?_, fun _ _ => trivial, ?_, fun _ => hn, ?_⟩
  · rw [hW1, hrc]; exact run_enterLoop_outer _ _ _ _ _
  · simp only [resolve, hg]
    simp [go_sem]
  · simp [invoke, go_sem, hG]
  · refine (hy (w.heap.size + 1) (fun pre W => I pre W ∧ W.heap[w.heap.size + 1]? = some (.loop (rc .ready none)) ∧ W.heap[w.heap.size]? = some (.deferred (some []))) W1 hb1 ?_ ?_ ⟨hI1, hL1, hD1⟩).mono ?_
    · intro pre A B row hs hgr hr
      have keep : ∀ (k : Nat) (o : Obj), A.heap[k]? = some o → o.isCells = false → B.heap[k]? = some o := fun k o hk ho => by
        refine (hgr.block k (Array.getElem?_eq_some_iff.1 hk).1 fun e => ?_).trans hk
        obtain ⟨_, cs, fz, hc⟩ := hr k e.symm
        rw [hk] at hc
        cases hc
        cases ho
      exact ⟨hIw pre A B row hs.1 hgr (fun g e => ⟨Nat.le_trans (by omega) (hr g e).1, (hr g e).2⟩), keep _ _ hs.2.1 rfl, keep _ _ hs.2.2 rfl⟩
    · rintro pre x W ⟨hi, hl, hk⟩ hx hpl
      have hlt : w.heap.size + 1 < W.heap.size := (Array.getElem?_eq_some_iff.1 hl).1
      have hyl := run_yield (P := Tryz.prog) (args := #[Value.int .u8 ((x : Nat) : Int)]) hl (by rw [hrc]; simp [hps])
      rw [hrc] at hyl
      refine ⟨fn, _, assign, body, hyl, roundIn_of_wpIn hfn (hassign _ x W _ ⟨_, run_beginRound hl (by rw [hrc]), ?_⟩)⟩
      have hi2 := hIo.putObj (Obj.loop { rc .ready none with state := .busy }) hi (show w.heap.size ≤ w.heap.size + 1 by omega) hl rfl
      have hl2 : (W.putObj (w.heap.size + 1) (.loop { rc .ready none with state := .busy })).heap[w.heap.size + 1]? = some (.loop { rc .ready none with state := .busy }) := World.putObj_heap_same hlt
      have hk2 : (W.putObj (w.heap.size + 1) (.loop { rc .ready none with state := .busy })).heap[w.heap.size]? = some (.deferred (some [])) := (World.putObj_heap_other (by omega)).trans hk
      refine wpIn_mono (hbody _ pre x _ hi2 hx hpl (by simp; omega)) ?_
      rintro e a3 W3 hp
      cases e with
      | normal =>
        obtain ⟨k3, kw3, hi3⟩ := hp
        have hl3 := k3.same _ _ (by omega) hl2 rfl
        have hk3 := k3.same _ _ (Nat.le_refl _) hk2 rfl
        have he := run_endRound (P := Tryz.prog) none hl3
        have hl4 : w.heap.size + 1 < W3.heap.size := (Array.getElem?_eq_some_iff.1 hl3).1
        refine ⟨_, _, he, rfl, ⟨hIo.putObj _ hi3 (by omega) hl3 rfl, ?_, (World.putObj_heap_other (by omega)).trans hk3⟩, ((KeepWords.turned hl rfl).trans kw3).trans (KeepWords.turned hl3 rfl)⟩
        rw [World.putObj_heap_same hl4, hrc]
        rfl
      | ret => exact hp.elim
      | exit id => exact hp.elim
      | goto t => exact hp.elim
      | panic ch => exact hp.elim
      | outgrown => exact hp.elim
    · rintro e W2 ⟨⟨v, rfl⟩, hi, hl, hk⟩
      have he := run_endLoop (P := Tryz.prog) hl (by rw [hrc]; simp)
      rw [hrc] at he hl
      exact ⟨none, _, he, hdone _ (hIo.putObj _ hi (by omega) hl rfl) ((World.putObj_heap_other (by omega)).trans hk)⟩
end Go.Proofs.YtikgfdkaikpmhaaGreat
