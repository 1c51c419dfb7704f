/-
  A loop over an iterator of digits that makes new memory alone. What is collected in a variable of bytes. What slices.Reverse does of bytes. Conditions: those that each theorem names.
  What the text of an integer is. Conditions: those that each theorem names.
-/
import Derived.Laws.IdiomStrings
import Derived.Test.YtkbghamkalidcaaGreatSeqIAll
import Derived.Stop.RegionWithIn
namespace Go.Proofs.YtkbghamkalidcaaGreat
open Go.RowKit

/-- what an iterator over digits promises: it yields the digits xs, whatever a round does that keeps the rows of words and the variables of type int; it makes new memory alone -/
def YieldsI (m : Nat) (G : FuncId) (lb : Array Value) (B : Nat) (xs : List Nat) (w : World) : Prop :=
  ∀ (l : Nat) (J : List Nat → World → Prop) (W : World), Below w.heap.size w W → AbidesNew J →
    (∀ pre x W1, J pre W1 → x < B → pre.length < xs.length → YieldAt Fence.wide (m - 1) Tryz.prog l #[.int .i64 ((x : Nat) : Int)] W1 fun e W' => e = .returned (.bool true) ∧ J (pre ++ [x]) W' ∧ KeepTy W1 W') →
    J [] W → CallsIn Fence.wide m Tryz.prog G (#[.func (.yield l) #[] #[]] ++ lb) W fun e W' => (∃ v, e = .returned v) ∧ J xs W'
/-- how a round ends -/
def RoundEnds (B : Nat) (I : List Nat → World → Prop) (xs : List Nat) (W : World) : Exit → Act → World → Prop
  | .normal, _, W' => KeepsFrom B W W' ∧ KeepTy W W' ∧ I xs W'
  | _, _, _ => False

/-- an object that is no row is turned -/
theorem KeepTy.turned {W : World} {l : Nat} {o o' : Obj} (hl : W.heap[l]? = some o) (ho : o.isCells = false) : KeepTy W (W.putObj l o') := by
  refine ⟨by simp, fun g cs t fz _ hg => ?_⟩
  by_cases h : g = l
  · subst h
    rw [hg] at hl
    cases hl
    cases ho
  · exact (World.putObj_heap_other h).trans hg

/-- a loop over such an iterator whose body never leaves it -/
theorem wpIn_range_digits {n : Nat} {g : Operand} {ps : Array Tmp} {assign body : Code} {Q : Exit → Act → World → Prop} {a : Act} {w : World} {G : FuncId} {lb : Array Value} {B : Nat} {xs : List Nat}
    (hg : a.eval g = .func (.func G) #[] lb) (hG : ∀ args w, (callFunc G args).run Tryz.prog w = .ok (.enter G args) w) (hn : 1 ≤ n) (hy : YieldsI (n - 1) G lb B xs w) (hps : ps.size = 1)
    (I : List Nat → World → Prop) (hIw : AbidesNew I) (hIo : OwnFrom w.heap.size I) (h0 : I [] w) (a₁ : Nat → Act)
    (hassign : ∀ (l x : Nat) (W : World) (K : Act → World → Prop), K (a₁ x) W →
      assign.wpIn (Fence.wide.inRound l) (n - 1 - 1) Tryz.prog (Exit.then K (fun _ _ _ => False)) { tmps := (ps.zip #[Value.int .i64 ((x : Nat) : Int)]).foldl (fun t (p, v) => t.setIfInBounds p v) a.tmps, defers := [] } W)
    (hbody : ∀ (l : Nat) (pre : List Nat) (x : Nat) (W : World), I pre W → x < B → pre.length < xs.length → w.heap.size ≤ W.heap.size → body.wpIn (Fence.wide.inRound l) (n - 1 - 1) Tryz.prog (RoundEnds w.heap.size I (pre ++ [x]) W) (a₁ x) W)
    (hdone : ∀ W, I xs W → W.heap[w.heap.size]? = some (.deferred (some [])) → Q .normal { a with defers := { target := .collected w.heap.size, args := #[] } :: a.defers } W) :
    (Code.rangeFunc g ps assign body).wpIn Fence.wide n Tryz.prog Q a w := by
  refine wpIn_rangeFunc fun fn hfn => ?_
  obtain ⟨rc, hrc⟩ : ∃ rc : LoopState → Option Code → Loop, rc = fun st pe => { state := st, pending := pe, fn, tmps := a.tmps, params := ps, assign, body, defers := w.heap.size } := ⟨_, rfl⟩
  obtain ⟨W1, hW1⟩ : ∃ W1, W1 = (w.alloc (.deferred (some []))).alloc (.loop (rc .ready none)) := ⟨_, rfl⟩
  have hs1 : W1.heap.size = w.heap.size + 2 := by rw [hW1]; simp
  have hD1 : W1.heap[w.heap.size]? = some (.deferred (some [])) := by rw [hW1]; exact heap_alloc2_old w _ _
  have hL1 : W1.heap[w.heap.size + 1]? = some (.loop (rc .ready none)) := by rw [hW1]; exact heap_alloc2_new w _ _
  have hI1 : I [] W1 := by rw [hW1]; exact hIo.alloc _ (hIo.alloc _ h0)
  have hb1 : Below w.heap.size w W1 := by rw [hW1]; exact ((Below.refl _ w).alloc (Nat.le_refl _) _).alloc (by simp) _
  refine ⟨w.heap.size + 1, [{ target := .collected w.heap.size, args := #[] }], W1, { target := .fn (.func G) lb, args := #[.func (.yield (w.heap.size + 1)) #[] #[]] }, W1, G,
    #[.func (.yield (w.heap.size + 1)) #[] #[]] ++ lb, W1, ?_, ?_, fun _ _ => trivial, ?_, fun _ => hn, ?_⟩
  · rw [hW1, hrc]; exact run_enterLoop_outer _ _ _ _ _
  · simp only [resolve, hg]
    simp [go_sem]
  · simp [invoke, go_sem, hG]
  · refine (hy (w.heap.size + 1) (fun pre W => I pre W ∧ W.heap[w.heap.size + 1]? = some (.loop (rc .ready none)) ∧ W.heap[w.heap.size]? = some (.deferred (some []))) W1 hb1 ?_ ?_ ⟨hI1, hL1, hD1⟩).mono ?_
    · intro pre A C hs hac
      exact ⟨hIw pre A C hs.1 hac, (hac.block _ (Array.getElem?_eq_some_iff.1 hs.2.1).1).trans hs.2.1, (hac.block _ (Array.getElem?_eq_some_iff.1 hs.2.2).1).trans hs.2.2⟩
    · rintro pre x W ⟨hi, hl, hk⟩ hx hpl
      have hlt : w.heap.size + 1 < W.heap.size := (Array.getElem?_eq_some_iff.1 hl).1
      have hyl := run_yield (P := Tryz.prog) (args := #[Value.int .i64 ((x : Nat) : Int)]) hl (by rw [hrc]; simp [hps])
      rw [hrc] at hyl
      refine ⟨fn, _, assign, body, hyl, roundIn_of_wpIn hfn (hassign _ x W _ ⟨_, run_beginRound hl (by rw [hrc]), ?_⟩)⟩
      have hi2 := hIo.putObj (Obj.loop { rc .ready none with state := .busy }) hi (show w.heap.size ≤ w.heap.size + 1 by omega) hl rfl
      have hl2 : (W.putObj (w.heap.size + 1) (.loop { rc .ready none with state := .busy })).heap[w.heap.size + 1]? = some (.loop { rc .ready none with state := .busy }) := World.putObj_heap_same hlt
      have hk2 : (W.putObj (w.heap.size + 1) (.loop { rc .ready none with state := .busy })).heap[w.heap.size]? = some (.deferred (some [])) := (World.putObj_heap_other (by omega)).trans hk
      refine wpIn_mono (hbody _ pre x _ hi2 hx hpl (by simp; omega)) ?_
      rintro e a3 W3 hp
      cases e with
      | normal =>
        obtain ⟨k3, kw3, hi3⟩ := hp
        have hl3 := k3.same _ _ (by omega) hl2 rfl
        have hk3 := k3.same _ _ (Nat.le_refl _) hk2 rfl
        have he := run_endRound (P := Tryz.prog) none hl3
        have hl4 : w.heap.size + 1 < W3.heap.size := (Array.getElem?_eq_some_iff.1 hl3).1
        refine ⟨_, _, he, rfl, ⟨hIo.putObj _ hi3 (by omega) hl3 rfl, ?_, (World.putObj_heap_other (by omega)).trans hk3⟩, ((KeepTy.turned hl rfl).trans kw3).trans (KeepTy.turned hl3 rfl)⟩
        rw [World.putObj_heap_same hl4, hrc]
        rfl
      | ret => exact hp.elim
      | exit id => exact hp.elim
      | goto t => exact hp.elim
      | panic ch => exact hp.elim
      | outgrown => exact hp.elim
    · rintro e W2 ⟨⟨v, rfl⟩, hi, hl, hk⟩
      have he := run_endLoop (P := Tryz.prog) hl (by rw [hrc]; simp)
      rw [hrc] at he hl
      exact ⟨none, _, he, hdone _ (hIo.putObj _ hi (by omega) hl rfl) ((World.putObj_heap_other (by omega)).trans hk)⟩


/-- the cells of a row of bytes -/
def bvals (L : List Nat) : List Value := L.map fun x : Nat => Value.int .u8 (x : Int)
theorem bvals_get {L : List Nat} {i : Nat} (h : i < L.length) : (bvals L)[i]? = some (.int .u8 ((L.getD i 0 : Nat) : Int)) := by simp [bvals, h]
theorem bvals_set (xs : List Nat) (k y : Nat) : bvals (xs.set k y) = (bvals xs).set k (.int .u8 (y : Int)) := by simp [bvals, List.map_set]
theorem bvals_snoc (zs : List Nat) (z : Nat) : bvals (zs ++ [z]) = bvals zs ++ [.int .u8 (z : Int)] := by simp [bvals]

/-- the first k and the last k elements are in their new places -/
def Turned (L C : List Nat) (k : Nat) : Prop := C.length = L.length ∧ ∀ i, i < L.length → C.getD i 0 = if i < k ∨ L.length ≤ i + k then L.getD (L.length - 1 - i) 0 else L.getD i 0
theorem turned_start (L : List Nat) : Turned L L 0 := ⟨rfl, fun i hi => by rw [if_neg (by omega)]⟩
theorem getD_set (C : List Nat) (k y i : Nat) (hk : k < C.length) : (C.set k y).getD i 0 = if i = k then y else C.getD i 0 := by
  simp only [List.getD_eq_getElem?_getD, List.getElem?_set]
  by_cases h : k = i
  · subst h; simp [hk]
  · rw [if_neg h, if_neg (fun e => h e.symm)]
theorem turned_next {L C : List Nat} {k : Nat} (h : Turned L C k) (hk : k + (k + 1) < L.length) : Turned L ((C.set k (C.getD (L.length - 1 - k) 0)).set (L.length - 1 - k) (C.getD k 0)) (k + 1) := by
  obtain ⟨h1, h2⟩ := h
  refine ⟨by simp [h1], fun i hi => ?_⟩
  rw [getD_set _ _ _ _ (by simp [h1]; omega), getD_set _ _ _ _ (by omega), h2 k (by omega), h2 (L.length - 1 - k) (by omega), h2 i hi]
  rw [if_neg (show ¬ (k < k ∨ L.length ≤ k + k) by omega), if_neg (show ¬ (L.length - 1 - k < k ∨ L.length ≤ L.length - 1 - k + k) by omega)]
  by_cases e1 : i = L.length - 1 - k
  · rw [if_pos e1, if_pos (by omega), e1]; congr 1; omega
  · rw [if_neg e1]
    by_cases e2 : i = k
    · rw [if_pos e2, if_pos (by omega), e2]
    · rw [if_neg e2]
      by_cases e3 : i < k ∨ L.length ≤ i + k
      · rw [if_pos e3, if_pos (by omega)]
      · rw [if_neg e3, if_neg (by omega)]
theorem turned_end {L C : List Nat} {k : Nat} (h : Turned L C k) (hk : L.length ≤ k + (k + 1)) : C = L.reverse := by
  obtain ⟨h1, h2⟩ := h
  apply List.ext_getElem
  · simp [h1]
  · intro i hi hj
    have hiL : i < L.length := by omega
    have e := h2 i hiL
    rw [List.getD_eq_getElem?_getD, List.getElem?_eq_getElem hi] at e
    simp only [Option.getD_some] at e
    rw [e, List.getElem_reverse]
    have key : L.getD (L.length - 1 - i) 0 = L[L.length - 1 - i]'(by omega) := by
      rw [List.getD_eq_getElem?_getD, List.getElem?_eq_getElem (by omega)]; rfl
    by_cases c : i < k ∨ L.length ≤ i + k
    · rw [if_pos c, key]
    · rw [if_neg c, ← key]; congr 1; omega

set_option maxHeartbeats 2000000 in
theorem reverse_any (base g n cap : Nat) (L : List Nat) (w : World) (hL : L.length = n) (h : w.ownsRow base 5 1 (.slice (some ⟨g, 0, none⟩) n cap) n (bvals L)) (hn : n ≤ 1000000) (hnc : n ≤ cap) (hcm : cap ≤ 9223372036854775807) :
    Calls Tryz.prog 155 #[.slice (some ⟨g, 0, none⟩) n cap] w fun e w' => (∃ v, e = .returned v) ∧ w'.ownsRow base 5 1 (.slice (some ⟨g, 0, none⟩) n cap) n (bvals L.reverse) ∧ w.grownBy w' (some g) := by
  have HW := Lib.hid (And.intro h (World.grownBy.refl w (some g)))
  have HL := Lib.hid hL
  clear h hL
  go_enter Tryz.func155, Tryz.ntmps155
  go_wp2
  go_loopw [2, 3] (fun i j wr => ∃ (k : Nat) (C : List Nat), i = .int .i64 k ∧ j = .int .i64 ((n : Int) - 1 - k) ∧ k ≤ n ∧ Hid (Turned L C k) ∧ Hid (wr.ownsRow base 5 1 (.slice (some ⟨g, 0, none⟩) n cap) n (bvals C) ∧ w.grownBy wr (some g))) (fun i _ _ => n - (intOf i).toNat)
  case atStart => exact ⟨0, L, rfl, by go_num, by omega, turned_start L, HW.out⟩
  case round =>
    obtain ⟨k, C, rfl, rfl, hk, ht, ho⟩ := hrel
    by_cases hlt : k + (k + 1) < n
    · have t0 : decide ((k : Int) < (n : Int) - 1 - k) = true := by rw [decide_eq_true_eq]; omega
      obtain ⟨j, hj⟩ : ∃ j, j = n - 1 - k := ⟨_, rfl⟩
      rw [show (n : Int) - 1 - k = (j : Int) by omega] at t0 ⊢
      have t0' : decide (k < j) = true := by rw [decide_eq_true_eq]; omega
      have hjn : j < n := by omega
      have hkn : k < n := by omega
      have hkj : ¬ k = j := by omega
      obtain ⟨x, hx⟩ : ∃ x, x = C.getD k 0 := ⟨_, rfl⟩
      obtain ⟨y, hy⟩ : ∃ y, y = C.getD j 0 := ⟨_, rfl⟩
      have c1 := (ho.out.1.cellAt k (by omega)).trans (bvals_get (by rw [ht.out.1, HL.out]; omega))
      have c2 := (ho.out.1.cellAt j (by omega)).trans (bvals_get (by rw [ht.out.1, HL.out]; omega))
      rw [← hx] at c1
      rw [← hy] at c2
      have f1 := ho.out.1.frozenAt k
      have f2 := ho.out.1.frozenAt j
      have HX := Lib.hid (And.intro hx (And.intro hy hj))
      clear hx hy hj
      go_wp2
      go_region
      go_wp2
      go_roundw
      case rel =>
        refine ⟨k + 1, (C.set k y).set j x, by go_num, ?_, by omega, ?_, ?_⟩
        · have := HX.out.2.2
          rw [show (j : Int) - 1 = (n : Int) - 1 - ((k + 1 : Nat) : Int) by omega]
        · have := turned_next ht.out (by rw [HL.out]; exact hlt)
          rw [HL.out, ← HX.out.2.2, ← HX.out.1, ← HX.out.2.1] at this
          exact this
        · rw [bvals_set, bvals_set]
          have h1 := ho.out.1.stored k (.int .u8 (y : Int))
          have h2 := h1.1.stored j (.int .u8 (x : Int))
          exact ⟨h2.1.drew, grown_trans ho.out.2 (grown_trans h1.2 (grown_trans h2.2 (grown_of_below (Below.refl _ _).drew)))⟩
      case measure => simp [intOf] <;> omega
    · have t0 : decide ((k : Int) < (n : Int) - 1 - k) = false := by rw [decide_eq_false_iff_not]; omega
      have he := Lib.hid (turned_end ht.out (by rw [HL.out]; omega))
      go_wp2
      go_end0
      refine ⟨⟨_, rfl⟩, ?_⟩
      rw [← he.out]
      exact ho.out


attribute [local go_sem] Oper.semAt_some

theorem addr_add (g j : Nat) : Addr.add ⟨g, 0, none⟩ j = ⟨g, j, none⟩ := by unfold Addr.add; split <;> simp_all
theorem byte_nat {x : Nat} (h : x < 256) : (((UInt8.ofNat x).toNat : Nat) : Int) = (x : Int) := by
  have : (UInt8.ofNat x).toNat = x := by
    rw [UInt8.toNat_ofNat']
    exact Nat.mod_eq_of_lt h
  rw [this]

/-- what has been collected: the variable and the row behind it -/
def Got (w : World) (pre : List Nat) (W : World) : Prop := (∃ v, W.heap[w.heap.size]? = some (Obj.cells #[v] 170 (0, 0)) ∧ W.ownsRow (w.heap.size + 1) 5 1 v pre.length (bvals pre)) ∧ Below w.heap.size w W
theorem Got.kept {w W W' : World} {pre : List Nat} {row : Option Nat} (h : Got w pre W) (hg : W.grownBy W' row)
    (hr : ∀ r, row = some r → w.heap.size ≤ r ∧ ∃ o : Obj, W.heap[r]? = some o ∧ (∀ cs fz, o ≠ Obj.cells cs 170 fz) ∧ (∀ cs fz, o ≠ Obj.cells cs 5 fz)) : Got w pre W' := by
  obtain ⟨⟨v, h1, h2⟩, hb⟩ := h
  refine ⟨⟨v, ?_, ?_⟩, ⟨hg.os.trans hb.os, hg.tape.trans hb.tape, hg.output.trans hb.output, Nat.le_trans hb.size hg.size, fun q hq => ?_⟩⟩
  · refine (hg.block _ (lt_of_block h1) fun e => ?_).trans h1
    obtain ⟨_, o, ho, k1, _⟩ := hr _ e.symm
    rw [h1] at ho
    cases ho
    exact k1 _ _ rfl
  · refine h2.kept hg ?_
    obtain ⟨_, ⟨rfl, _⟩ | ⟨g, cap, cur, rfl, hb', hg', _⟩⟩ := h2
    · exact .inl rfl
    · refine .inr fun e => ?_
      obtain ⟨_, o, ho, _, k2⟩ := hr _ e.symm
      rw [hg'] at ho
      cases ho
      exact k2 _ _ rfl
  · rw [← hb.block q hq]
    exact hg.block q (Nat.lt_of_lt_of_le hq hb.size) fun e => by have := (hr _ e.symm).1; omega

theorem infoByte : (Tryz.prog.info? 5).map (fun i => (i.zero, i.size, i.bytes)) = some (some (.int .u8 0), 1, 1) := by kernel_rfl
theorem got_box {w W w1 : World} {k : Nat} {x : Value} {v : Value} {L : List Value} (hc : W.heap[w.heap.size]? = some (Obj.cells #[v] 170 (0, 0))) (ho : W.ownsRow (w.heap.size + 1) 5 1 v k L)
    (hg : (W.alloc (.cells #[x] 5)).grownBy w1 v.ownBlock) : w1.heap[w.heap.size]? = some (Obj.cells #[v] 170 (0, 0)) := by
  have hkl := lt_of_block hc
  refine (hg.block _ (by simp; omega) fun e => ?_).trans ((Below.heap_alloc W _ _ hkl).trans hc)
  obtain ⟨_, ⟨rfl, _⟩ | ⟨g, cap, cur, rfl, hbg, _⟩⟩ := ho
  · cases e
  · have : w.heap.size = g := by simpa [Value.ownBlock] using e
    omega

/-- one byte more -/
theorem got_next {w W w1 : World} {pre : List Nat} {x B : Nat} {v v' : Value} (hc : W.heap[w.heap.size]? = some (Obj.cells #[v] 170 (0, 0))) (ho : W.ownsRow (w.heap.size + 1) 5 1 v pre.length (bvals pre)) (hb : Below w.heap.size w W)
    (ho' : w1.ownsRow (w.heap.size + 1) 5 1 v' (pre.length + 1) (bvals pre ++ [.int .u8 (x : Int)])) (hg : (W.alloc (.cells #[.int .u8 (x : Int)] 5)).grownBy w1 v.ownBlock) :
    KeepsFrom B W (w1.setCell ⟨w.heap.size, 0, none⟩ v') ∧ KeepTy W (w1.setCell ⟨w.heap.size, 0, none⟩ v') ∧ Got w (pre ++ [x]) (w1.setCell ⟨w.heap.size, 0, none⟩ v') := by
  have hsz : W.heap.size ≤ w1.heap.size := by have := hg.size; simp at this; omega
  have keep1 : ∀ (k : Nat) (o : Obj), W.heap[k]? = some o → (∀ cs fz, o ≠ Obj.cells cs 5 fz) → w1.heap[k]? = some o := fun k o hk hno => by
    have hkl : k < W.heap.size := (Array.getElem?_eq_some_iff.1 hk).1
    refine (hg.block k (by simp; omega) fun e => ?_).trans ((Below.heap_alloc W _ k hkl).trans hk)
    obtain ⟨_, ⟨rfl, _⟩ | ⟨g, cap, cur, rfl, _, hg', _⟩⟩ := ho
    · cases e
    · have : k = g := by simpa [Value.ownBlock] using e
      subst this
      rw [hk] at hg'
      cases hg'
      exact hno _ _ rfl
  have keep : ∀ (k : Nat) (o : Obj), W.heap[k]? = some o → (∀ cs fz, o ≠ Obj.cells cs 5 fz) → k ≠ w.heap.size → (w1.setCell ⟨w.heap.size, 0, none⟩ v').heap[k]? = some o := fun k o hk hno hne =>
    (Below.heap_setCell w1 ⟨w.heap.size, 0, none⟩ v' k hne).trans (keep1 k o hk hno)
  have hbox := keep1 _ _ hc (fun cs fz e => by cases e)
  refine ⟨⟨by simpa using hsz, fun k o _ hk hcell => keep k o hk (fun cs fz e => by rw [e] at hcell; cases hcell) (fun e => ?_)⟩, ⟨by simpa using hsz, fun g cs t fz ht hk => keep g _ hk (fun cs' fz' e => by cases e; rcases ht with h | h <;> cases h) (fun e => ?_)⟩, ⟨v', one_setCell hbox, ?_⟩, ?_⟩
  · rw [e, hc] at hk; cases hk; cases hcell
  · rw [e, hc] at hk; cases hk; rcases ht with h | h <;> cases h
  · rw [bvals_snoc, List.length_append]
    refine World.ownsRow.kept ho' (Only.setCell w.heap.size 0 v' w1) ?_
    obtain ⟨_, ⟨rfl, h⟩ | ⟨g, cap, cur, rfl, hbg, _⟩⟩ := ho'
    · exact .inl rfl
    · refine .inr fun e => ?_
      have : g = w.heap.size := by simpa [Value.ownBlock] using e
      omega
  · have h1 : Below w.heap.size w (W.alloc (.cells #[.int .u8 (x : Int)] 5)) := hb.trans (((Below.refl W.heap.size W).alloc (Nat.le_refl _) _).mono hb.size)
    refine Below.setCell (p := ⟨w.heap.size, 0, none⟩) (show Below w.heap.size w w1 from ⟨hg.os.trans h1.os, hg.tape.trans h1.tape, hg.output.trans h1.output, Nat.le_trans hb.size hsz, fun q hq => ?_⟩) (Nat.le_refl _) _
    rw [← h1.block q hq]
    refine hg.block q (Nat.lt_of_lt_of_le hq h1.size) fun e => ?_
    obtain ⟨_, ⟨rfl, _⟩ | ⟨g, cap, cur, rfl, hbg, _⟩⟩ := ho
    · cases e
    · have : q = g := by simpa [Value.ownBlock] using e
      omega

end Go.Proofs.YtkbghamkalidcaaGreat

namespace Go.Proofs.YtkbghamkalidcaaGreat
open Go.RowKit

attribute [local go_sem] Oper.semAt_some

set_option maxHeartbeats 1000000 in
theorem digitsFromEnd_any (a : Option Addr) (l c B : Nat) (w : World) (h2 : 2 ≤ B) (h36 : B ≤ 36) :
    Calls Tryz.prog 154 #[.slice a l c, .int .i64 B] w fun e w' => ∃ s z : Nat, chunkOk B s z ∧
      e = .returned (.func (.func 210) #[] #[.pointer (some ⟨w.heap.size, 0, none⟩), .pointer (some ⟨w.heap.size + 2, 0, none⟩), .pointer (some ⟨w.heap.size + 3, 0, none⟩), .pointer (some ⟨w.heap.size + 1, 0, none⟩)]) ∧
      w' = (((w.alloc (.cells #[.slice a l c] 23)).alloc (.cells #[.int .i64 B] 3)).alloc (.cells #[.int .u32 s] 80)).alloc (.cells #[.int .i64 z] 3) := by
  have hmf : ∀ (fn : Fn) (first cap : Array Value) (w : World), (Instr.makeFunc fn first cap).run Tryz.prog w = .ok (.func fn first cap) w := fun _ _ _ _ => rfl
  have HC := Lib.hid (fun w' : World => chunkOf_any B w' h2 h36)
  clear h2 h36
  go_enter Tryz.func154, Tryz.ntmps154
  go_wp2_with fail
  refine (HC.out _).mono ?_
  rintro e w1 ⟨⟨s, z, rfl, hok⟩, rfl⟩
  have HOK := Lib.hid hok
  clear hok HC
  go_wp2_with fail
  go_ret
  exact ⟨s, z, HOK.out, rfl, rfl⟩

theorem ownsB_slice {base : Nat} {w : World} {v : Value} {n : Nat} {L : List Value} {e : TypeId} (h : w.ownsRow base e 1 v n L) (hn : 0 < n) : ∃ g cap, v = .slice (some ⟨g, 0, none⟩) n cap ∧ base ≤ g ∧ g < w.heap.size ∧ n ≤ cap ∧ cap ≤ 9223372036854775807 := by
  rcases h.2 with ⟨_, h'⟩ | ⟨g', cap', cur, rfl, hb, hg, hnc, hcm, _⟩
  · omega
  · exact ⟨g', cap', rfl, hb, lt_of_block hg, hnc, by simp only [maxLen] at hcm; omega⟩
/-- append to a row of one's own, as one operation -/
theorem opIn_append_own {F : Fence} {n : Nat} {P : Program} (w : World) {o : Oper} {a : Act} {K : Act → World → Prop} {Q : Exit → Act → World → Prop}
    (s x : Operand) (t : TypeId) (hop : o.op = Op.call { callee := Callee.builtin Builtin.append, args := #[s, x], argTypes := #[t, t] })
    (base : Nat) (e : TypeId) (i : TypeInfo) (z : Value) (size bytes : Nat) (h1 : P.underlying t = some (.slice e)) (h2 : P.info? e = some i) (h3 : i.zero = some z) (h4 : i.size = size) (h5 : i.bytes = bytes) (h6 : z.cells.size = size) (h7 : 0 < size)
    (v : Value) (k : Nat) (xs : List Value) (hs : a.eval s = v) (hown : w.ownsRow base e size v k xs) (ad : Addr) (m c : Nat) (news : List Value) (hx : a.eval x = .slice (some ad) m c) (hn : news.length = m * size)
    (hc : ∀ j u, news[j]? = some u → w.cell? (ad.add j) = some u) (h1c : ∀ u ∈ news, u.oneCell' = true) (b1 : k + m ≤ maxLen) (b2 : (k + m) * bytes ≤ 140737488355328) (b3 : base ≤ w.heap.size)
    (hK : ∀ v' w', w'.ownsRow base e size v' (k + m) (xs ++ news) → w.grownBy w' v.ownBlock → K (a.put o.dst v') w') : Oper.wpIn F n P o a w K Q := by
  obtain ⟨v', w', hrun, r1, r2, _⟩ := run_append_own (P := P) w base t o.type e i z size bytes h1 h2 h3 h4 h5 h6 h7 v k xs hown ad m c news hn hc h1c b1 b2 b3
  unfold Oper.wpIn
  refine ⟨?_, ?_⟩
  · simp [Oper.about, hop, resolve, Target.leads, Sem.run_pure]
  · rw [Oper.semAt_plain F _ _ (by rw [hop]; intro c hc'; cases hc')]
    simp [execOp, hop, resolve, invoke, builtin, hs, hx, hrun, Result.andThen]
    exact hK _ _ r1 r2

/-- the letters of digits -/
def letters (up : Bool) : ByteArray := if up = true then ⟨#[48, 49, 50, 51, 52, 53, 54, 55, 56, 57, 65, 66, 67, 68, 69, 70, 71, 72, 73, 74, 75, 76, 77, 78, 79, 80, 81, 82, 83, 84, 85, 86, 87, 88, 89, 90]⟩ else ⟨#[48, 49, 50, 51, 52, 53, 54, 55, 56, 57, 97, 98, 99, 100, 101, 102, 103, 104, 105, 106, 107, 108, 109, 110, 111, 112, 113, 114, 115, 116, 117, 118, 119, 120, 121, 122]⟩
def letterN (up : Bool) (d : Nat) : Nat := if d < 10 then 48 + d else if up = true then 55 + d else 87 + d
theorem letter_at (up : Bool) : ∀ d, d < 36 → (letters up).data[d]? = some (UInt8.ofNat (letterN up d)) := by
  cases up <;> decide
theorem letterN_lt (up : Bool) {d : Nat} (h : d < 36) : letterN up d < 256 := by
  rw [letterN]
  split
  · omega
  · split <;> omega
theorem letter_index (up : Bool) (x : Nat) (hx : x < 36) (w : World) : (Instr.index 9 (.string (letters up)) (.int .i64 (x : Int))).run Tryz.prog w = .ok (.int .u8 ((letterN up x : Nat) : Int)) w := by
  have hs : (letters up).size = 36 := by cases up <;> rfl
  have hi : 0 ≤ (x : Int) ∧ (x : Int) < ((letters up).size : Int) := by rw [hs]; omega
  rw [run_index_string w _ _ _ _ Tryz.underlying9, dif_pos hi]
  obtain ⟨h1, h2⟩ := Array.getElem?_eq_some_iff.1 (letter_at up x hx)
  have h3 : (letters up)[(x : Int).toNat]'(by rw [hs]; exact hx) = UInt8.ofNat (letterN up x) := h2
  rw [h3, byte_nat (letterN_lt up hx)]

/-- the bytes of the text of an integer, the last one first -/
def textL (B : Nat) (up s : Bool) (m : Nat) : List Nat := (if m = 0 then [48] else (digitsB B m).map (letterN up)) ++ (if s = true then [45] else [])
def textB (B : Nat) (up s : Bool) (m : Nat) : ByteArray := ⟨((textL B up s m).reverse.map UInt8.ofNat).toArray⟩

/-- what is collected, as letters -/
def GotL (up : Bool) (V : World) (pre : List Nat) (W : World) : Prop := Got V (pre.map (letterN up)) W
theorem GotL.new (up : Bool) (V : World) : AbidesNew (GotL up V) := fun pre W W' h hb => Got.kept (row := none) h ⟨hb.os, hb.tape, hb.output, hb.size, fun k hk _ => hb.block k hk⟩ (fun _ e => by cases e)
end Go.Proofs.YtkbghamkalidcaaGreat
