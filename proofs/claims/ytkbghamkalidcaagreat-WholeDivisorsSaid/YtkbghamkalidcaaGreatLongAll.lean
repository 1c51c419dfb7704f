/-
  A region that draws its order, loads from blocks, and writes them at its end: what a block holds until a store has come up. Conditions: those that each theorem names.
  The short rows of sureSteps of package whole. Conditions: those that each theorem names.
  What decreaseTimes and estimate do. Conditions: those that each theorem names.
-/
import Derived.Test.YtkbghamkalidcaaGreatWork
import Derived.Deep.RegionHeld
import Derived.Test.YtkbghamkalidcaaGreatEucMAll
import Derived.Test.YtkbghamkalidcaaGreatEuclidI
import Derived.Test.YtkbghamkalidcaaGreatPairs
import Derived.BigQuiet
namespace Go.Proofs.YtkbghamkalidcaaGreat
open Go.RowKit

/-- of each entry (n, g, o): until operation n has come up, block g is o -/
def Until (L : List (Nat × Nat × Obj)) (listed : Array Bool) (w : World) : Prop := ∀ x ∈ L, listed.getD x.1 true = false → w.heap[x.2.1]? = some x.2.2
/-- the blocks whose stores are among D are as they were -/
def Sees (D : List Nat) (L : List (Nat × Nat × Obj)) (w : World) : Prop := ∀ x ∈ L, x.1 ∈ D → w.heap[x.2.1]? = some x.2.2
theorem Until.sees {D : List Nat} {L : List (Nat × Nat × Obj)} {listed : Array Bool} {w : World} (h : Until L listed w) (hD : ∀ j ∈ D, listed.getD j true = false) : Sees D L w := fun x hx hd => h x hx (hD _ hd)
theorem until_set {L : List (Nat × Nat × Obj)} {listed : Array Bool} {w : World} {i : Nat} (hL : ∀ x ∈ L, x.1 ≠ i) : Until L (listed.setIfInBounds i true) w ↔ Until L listed w := by
  constructor
  · exact fun h x hx hu => h x hx (by rw [getD_set_ne true (Ne.symm (hL x hx))]; exact hu)
  · exact fun h x hx hu => h x hx (by rw [getD_set_ne true (Ne.symm (hL x hx))] at hu; exact hu)
theorem until_two {n g m k : Nat} {o p : Obj} {listed : Array Bool} {w : World} (h : listed.getD n true = false → w.heap[g]? = some o) (h' : listed.getD m true = false → w.heap[k]? = some p) : Until [(n, g, o), (m, k, p)] listed w := fun x hx hu => by
  rcases (by simpa using hx : x = (n, g, o) ∨ x = (m, k, p)) with rfl | rfl
  · exact h hu
  · exact h' hu

theorem until_nil {listed : Array Bool} {w : World} : Until [] listed w := fun _ h => nomatch h
theorem until_cons {n g : Nat} {o : Obj} {L : List (Nat × Nat × Obj)} {listed : Array Bool} {w : World} (h : listed.getD n true = false → w.heap[g]? = some o) (hs : Until L listed w) : Until ((n, g, o) :: L) listed w := fun x hx hu => by
  rcases List.mem_cons.1 hx with rfl | hx
  · exact h hu
  · exact hs x hx hu
theorem Sees.trd {D : List Nat} {n g : Nat} {o : Obj} {x y : Nat × Nat × Obj} {L : List (Nat × Nat × Obj)} {w : World} (h : Sees D (x :: y :: (n, g, o) :: L) w) (hn : n ∈ D) : w.heap[g]? = some o := h (n, g, o) (List.mem_cons_of_mem _ (List.mem_cons_of_mem _ (List.mem_cons_self ..))) hn
theorem Sees.fth {D : List Nat} {n g : Nat} {o : Obj} {x y z : Nat × Nat × Obj} {L : List (Nat × Nat × Obj)} {w : World} (h : Sees D (x :: y :: z :: (n, g, o) :: L) w) (hn : n ∈ D) : w.heap[g]? = some o := h (n, g, o) (List.mem_cons_of_mem _ (List.mem_cons_of_mem _ (List.mem_cons_of_mem _ (List.mem_cons_self ..)))) hn
theorem Sees.fst {D : List Nat} {n g : Nat} {o : Obj} {L : List (Nat × Nat × Obj)} {w : World} (h : Sees D ((n, g, o) :: L) w) (hn : n ∈ D) : w.heap[g]? = some o := h (n, g, o) (List.mem_cons_self ..) hn
theorem Sees.snd {D : List Nat} {n g : Nat} {o : Obj} {x : Nat × Nat × Obj} {L : List (Nat × Nat × Obj)} {w : World} (h : Sees D (x :: (n, g, o) :: L) w) (hn : n ∈ D) : w.heap[g]? = some o := h (n, g, o) (List.mem_cons_of_mem _ (List.mem_cons_self ..)) hn

theorem until_past {b : Bool} {p : Prop} (h : b = true) : b = false → p := fun h' => Bool.noConfusion (h'.symm.trans h)

section
variable {P : Program} {ops : Array Oper} {Q : Exit → Act → World → Prop} {L : List (Nat × Nat × Obj)}
/-- whatever comes up next; behind it, what L says of the blocks -/
def wpU (P : Program) (ops : Array Oper) (Q : Exit → Act → World → Prop) (L : List (Nat × Nat × Obj)) : Nat → Array Bool → Act → World → Prop
  | 0, listed, a, w => Region.ready .any ops listed = [] ∧ Q .normal a w
  | n + 1, listed, a, w => (Region.ready .any ops listed = [] → Q .normal a w) ∧
      ∀ i ∈ Region.ready .any ops listed, wpOp P ops Q i (fun a' w' => Until L (listed.setIfInBounds i true) w' ∧ wpU P ops Q L n (listed.setIfInBounds i true) a' w') a w
theorem wpU_any : ∀ (n : Nat) (listed : Array Bool) (a : Act) (w : World), wpU P ops Q L n listed a w → wpAny P .any ops Q n listed a w
  | 0, _, _, _, h => h
  | n + 1, _, _, _, h => ⟨h.1, fun i hi => wpOp_mono (fun _ _ h => wpU_any n _ _ _ h.2) (h.2 i hi)⟩
theorem ready_unlisted {i : Nat} {listed : Array Bool} (h : listed.getD i true = false) : listed.getD i false = false := by
  rcases Nat.lt_or_ge i listed.size with h' | h'
  · simpa [h'] using h
  · simp [Array.getElem?_eq_none h'] at h
/-- a load comes first, though its block is written later -/
theorem wpU_first {i : Nat} {oi : Oper} {v : Value} (hi : ops[i]? = some oi) (hsel : Region.noSelect ops = true) (hQ : ∀ c a w, Q (.panic c) (a.put oi.dst v) w → Q (.panic c) a w) {D : List Nat}
    (hD : ∀ j ∈ D, ∀ oj, ops[j]? = some oj → ∃ e ∈ oj.after, Region.binds .any e = true ∧ e.on = i) (hL : ∀ x ∈ L, x.1 ≠ i) :
    ∀ (n : Nat) (listed : Array Bool) (a : Act) (w : World),
      (∀ j oj, ops[j]? = some oj → j ≠ i → listed.getD j true = false → (∀ e ∈ oj.after, Region.binds .any e = true → e.on ≠ i) → oi.apart ops oj = true) →
      i ∈ Region.ready .any ops listed → YieldsIf P ops (Sees D L) oi v a → Until L listed w → (∀ j ∈ D, listed.getD j true = false) →
      wpU P ops Q L n (listed.setIfInBounds i true) (a.put oi.dst v) w → wpU P ops Q L (n + 1) listed a w := by
  intro n
  induction n with
  | zero =>
    intro listed a w _ hr hy hU hDl H
    refine ⟨fun h => absurd hr (by rw [h]; exact List.not_mem_nil), fun j hj => ?_⟩
    by_cases hji : j = i
    · subst hji
      exact hy.wpOp hi (hU.sees hDl) ⟨(until_set hL).2 hU, H⟩
    · exact absurd (ready_mono hj hji) (by rw [H.1]; exact List.not_mem_nil)
  | succ n ih =>
    intro listed a w hfree hr hy hU hDl H
    refine ⟨fun h => absurd hr (by rw [h]; exact List.not_mem_nil), fun j hj => ?_⟩
    by_cases hji : j = i
    · subst hji
      exact hy.wpOp hi (hU.sees hDl) ⟨(until_set hL).2 hU, H⟩
    · obtain ⟨un, oj, hoj, hall⟩ := mem_ready.1 hj
      have hno : ∀ e ∈ oj.after, Region.binds .any e = true → e.on ≠ i := fun e he hb heq => by
        have h1 := hall e he hb
        rw [heq, ready_unlisted (mem_ready.1 hr).1] at h1
        cases h1
      have hjD : j ∉ D := fun h => by
        obtain ⟨e, he, hb, ho⟩ := hD j h oj hoj
        exact hno e he hb ho
      have step := wpOp_putIf hoj (hfree j oj hoj hji un hno) (fun cs b => Region.noSelect_spec hsel i oi cs b hi) (fun cs b => Region.noSelect_spec hsel j oj cs b hoj) hQ hy (H.2 j (ready_mono hj hji))
      refine wpOp_mono (fun a' w' h => ?_) step
      obtain ⟨hy', hU', H'⟩ := h
      rw [Array.setIfInBounds_comm _ _ (Ne.symm hji)] at hU' H'
      have hU2 := (until_set hL).1 hU'
      refine ⟨hU2, ih _ a' w' (fun k ok hk hki hun hn => hfree k ok hk hki ?_ hn) (ready_mono hr (Ne.symm hji)) hy' hU2 (fun k hk => ?_) H'⟩
      · by_cases hjk : j = k
        · rw [← hjk]; exact un
        · rw [getD_set_ne true hjk] at hun; exact hun
      · rw [getD_set_ne true (fun h => hjD (by rw [h]; exact hk))]
        exact hDl k hk
/-- the same by tests -/
theorem wpU_take {i : Nat} {oi : Oper} {v : Value} {n : Nat} {listed : Array Bool} {a : Act} {w : World} (D : List Nat) (hi : ops[i]? = some oi) (hsel : Region.noSelect ops = true) (hf : Region.free .any ops listed i = true) (hr : (Region.ready .any ops listed).contains i = true)
    (hD : (D.all fun j => !listed.getD j true && ((ops[j]?).map fun oj => oj.after.any fun e => Region.binds .any e && e.on == i).getD false) = true) (hL : (L.all fun x => x.1 != i) = true) (hQ : ∀ c a w, Q (.panic c) (a.put oi.dst v) w → Q (.panic c) a w)
    (hy : YieldsIf P ops (Sees D L) oi v a) (hU : Until L listed w) (h : Until L (listed.setIfInBounds i true) w → wpU P ops Q L n (listed.setIfInBounds i true) (a.put oi.dst v) w) : wpU P ops Q L (n + 1) listed a w := by
  have hL' : ∀ x ∈ L, x.1 ≠ i := fun x hx => by simpa using List.all_eq_true.1 hL x hx
  have hD' : ∀ j ∈ D, listed.getD j true = false ∧ ∀ oj, ops[j]? = some oj → ∃ e ∈ oj.after, Region.binds .any e = true ∧ e.on = i := fun j hj => by
    have h1 := List.all_eq_true.1 hD j hj
    rw [Bool.and_eq_true] at h1
    refine ⟨by simpa using h1.1, fun oj hoj => ?_⟩
    have h2 := h1.2
    rw [hoj] at h2
    obtain ⟨e, he, hb⟩ := Array.any_eq_true'.1 (show (oj.after.any fun e => Region.binds .any e && e.on == i) = true from h2)
    rw [Bool.and_eq_true, beq_iff_eq] at hb
    exact ⟨e, he, hb.1, hb.2⟩
  exact wpU_first hi hsel hQ (fun j hj => (hD' j hj).2) hL' n listed a w (Region.free_spec hi hf) (by simpa using hr) hy hU (fun j hj => (hD' j hj).1) (h ((until_set hL').2 hU))
/-- one operation is left to come next -/
theorem wpU_next {i : Nat} {o : Oper} {n : Nat} {listed : Array Bool} {a : Act} {w : World} (hr : Region.ready .any ops listed = [i]) (ho : ops[i]? = some o)
    (h : ∀ K' : Act → World → Prop, Shut (∀ a w, Until L (listed.setIfInBounds i true) w → (Until L (listed.setIfInBounds i true) w → wpU P ops Q L n (listed.setIfInBounds i true) a w) → K' a w) → if Region.wanted o (yielded ops a.tmps) = true then Oper.wp P o a w K' Q else K' (a.put o.dst undef) w) : wpU P ops Q L (n + 1) listed a w :=
  ⟨fun h0 => absurd (hr ▸ h0) (by simp), fun j hj => by
    rw [hr] at hj
    obtain rfl : j = i := by simpa using hj
    exact wpOp_step ho (fun K' hK => h K' (fun a w hU hW => hK a w ⟨hU, hW hU⟩))⟩
theorem wpU_done {listed : Array Bool} {a : Act} {w : World} (hr : Region.ready .any ops listed = []) (h : Q .normal a w) : ∀ n, wpU P ops Q L n listed a w
  | 0 => ⟨hr, h⟩
  | _ + 1 => ⟨fun _ => h, by rw [hr]; simp⟩
theorem wp_region_until {id : Nat} {a : Act} {w : World} (L : List (Nat × Nat × Obj)) (hm : P.follows .mixedOrders = true) (hU : Until L (Array.replicate ops.size false) w.drew)
    (h : Until L (Array.replicate ops.size false) w.drew → wpU P ops Q L ops.size (Array.replicate ops.size false) a w.drew) : (Code.region id ops true).wp P Q a w :=
  wp_region_any hm (wpU_any _ _ _ _ (h hU))
end
end Go.Proofs.YtkbghamkalidcaaGreat

namespace Go.Proofs.YtkbghamkalidcaaGreat
open Go.RowKit

/-- the short rows, one place later: ahead of them nothing -/
def shrow (a b : Nat) : Nat → ERow
  | 0 => (0, 0, 0)
  | j + 1 => eros a b j
def shv (R : ERow) : Array Value := #[.int .u64 (R.1 : Nat), .int .u64 (R.2.1 : Nat), .int .u64 (R.2.2 : Nat)]
def ShAt (w : World) (g : Nat) (R : ERow) : Prop := w.heap[g]? = some (.cells (shv R) 191 (0, 0))
structure ShBox (w : World) (g a b i : Nat) : Prop where
  first : ShAt w g (shrow a b (i - 1))
  second : ShAt w (g + 1) (eros a b (i - 1))
  third : ShAt w (g + 2) (eros a b i)
/-- the rest of the third row -/
def topN (w : World) (g : Nat) : Nat := match w.cell? ⟨g, 0, none⟩ with | some v => (intOf v).toNat | none => 0
theorem topN_of {w : World} {g : Nat} {R : ERow} (h : ShAt w g R) : topN w g = R.1 := by
  unfold topN
  rw [cell_of_row _ _ 0 _ _ (0, 0) h]
  rfl
theorem eros_rest_le (a b : Nat) (ha : a < 9223372036854775808) (hb : b < 9223372036854775808) : ∀ i, (eros a b i).1 < 9223372036854775808 ∧ (eros a b (i + 1)).1 < 9223372036854775808
  | 0 => ⟨ha, hb⟩
  | i + 1 => by
    have h := eros_rest_le a b ha hb i
    refine ⟨h.2, ?_⟩
    rw [show i + 1 + 1 = i + 2 from rfl, eros_rest]
    exact Nat.lt_of_le_of_lt (Nat.mod_le _ _) h.1
theorem eros_fall (a b k : Nat) (h : 0 < (eros a b (k + 1)).1) : (eros a b (k + 2)).1 < (eros a b (k + 1)).1 := by
  rw [eros_rest]
  exact Nat.mod_lt _ h
/-- the sum of the test fits in a word -/
theorem sure_sum {m n a b i : Nat} (h : Sure m n a b i) (hi : 1 ≤ i) (ha : a < 9223372036854775808) (hb : b < 9223372036854775808) (t1 : (eros a b i).2.2 ≤ (eros a b i).1) :
    (eros a b i).1 + (eros a b (i - 1)).2.2 < 18446744073709551616 ∧ (eros a b i).1 + (eros a b (i - 1)).2.2 + (eros a b i).2.2 < 18446744073709551616 := by
  obtain ⟨k, rfl⟩ : ∃ k, i = k + 1 := ⟨i - 1, by omega⟩
  rw [show k + 1 - 1 = k from rfl]
  have up := h.up
  rw [show k + 1 - 1 = k from rfl] at up
  have hp := (eros_rest_le a b ha hb k).2
  have hle := eros_le a b k
  match k, up, hp, hle, t1, h with
  | 0, up, hp, hle, t1, h =>
    simp only [eros] at *
    omega
  | k + 1, up, hp, hle, t1, h =>
    have h2 := h.last (by omega)
    rw [show k + 1 + 1 - 1 = k + 1 from rfl] at h2
    have h3 := eros_fall a b k h2
    rw [show k + 1 + 1 = k + 2 from rfl] at *
    have hy2 : (eros a b (k + 2)).2.2 < 4294967296 := by
      apply Classical.byContradiction
      intro hc
      have h5 : (eros a b (k + 2)).2.2 * (eros a b (k + 2)).2.2 ≤ (eros a b (k + 1)).1 * (eros a b (k + 2)).2.2 := Nat.mul_le_mul_right _ (by omega)
      have h6 : 4294967296 * 4294967296 ≤ (eros a b (k + 2)).2.2 * (eros a b (k + 2)).2.2 := Nat.mul_le_mul (by omega) (by omega)
      omega
    omega
/-- the next row fits in words -/
theorem sure_words {a b k q : Nat} (ha : a < 9223372036854775808) (hb : b < 9223372036854775808) (hq : q = (eros a b k).1 / (eros a b (k + 1)).1) (hp : 0 < (eros a b (k + 1)).1) :
    (eros a b (k + 2)).1 = (eros a b k).1 % (eros a b (k + 1)).1 ∧
    q * (eros a b (k + 1)).2.1 < 18446744073709551616 ∧ q * (eros a b (k + 1)).2.2 < 18446744073709551616 ∧
    (eros a b (k + 2)).2.1 = (eros a b k).2.1 + q * (eros a b (k + 1)).2.1 ∧ (eros a b (k + 2)).2.2 = (eros a b k).2.2 + q * (eros a b (k + 1)).2.2 ∧
    (eros a b (k + 2)).2.1 < 9223372036854775808 ∧ (eros a b (k + 2)).2.2 < 9223372036854775808 := by
  have hx := eros_x a b k
  have hy := eros_y a b k
  rw [← hq] at hx hy
  rw [Nat.mul_comm] at hx hy
  obtain ⟨h1, -, h2, -⟩ := eros_le a b (k + 1)
  rw [show k + 1 + 1 = k + 2 from rfl] at h1 h2
  have h3 : 1 * (eros a b (k + 2)).2.1 ≤ (eros a b (k + 1)).1 * (eros a b (k + 2)).2.1 := Nat.mul_le_mul_right _ hp
  have h4 : 1 * (eros a b (k + 2)).2.2 ≤ (eros a b (k + 1)).1 * (eros a b (k + 2)).2.2 := Nat.mul_le_mul_right _ hp
  exact ⟨eros_rest a b k, by omega, by omega, hx, hy, by omega, by omega⟩
theorem row3_other {w : World} {g j : Nat} (u0 u1 u2 : Value) (h : j ≠ g) : (((w.setCell ⟨g, 0, none⟩ u0).setCell ⟨g, 1, none⟩ u1).setCell ⟨g, 2, none⟩ u2).heap[j]? = w.heap[j]? := by
  rw [Below.heap_setCell _ ⟨g, 2, none⟩ _ _ h, Below.heap_setCell _ ⟨g, 1, none⟩ _ _ h, Below.heap_setCell _ ⟨g, 0, none⟩ _ _ h]
/-- two rows are written as they were -/
theorem sh_leave {w V : World} {g : Nat} {T : TypeId} {a0 a1 a2 b0 b1 b2 : Value} (h0 : w.heap[g]? = some (.cells #[a0, a1, a2] T (0, 0))) (h1 : w.heap[g + 1]? = some (.cells #[b0, b1, b2] T (0, 0)))
    (hV : V = (((((w.setCell ⟨g, 0, none⟩ a0).setCell ⟨g, 1, none⟩ a1).setCell ⟨g, 2, none⟩ a2).setCell ⟨g + 1, 0, none⟩ b0).setCell ⟨g + 1, 1, none⟩ b1).setCell ⟨g + 1, 2, none⟩ b2) :
    V.heap[g]? = some (.cells #[a0, a1, a2] T (0, 0)) ∧ V.heap[g + 1]? = some (.cells #[b0, b1, b2] T (0, 0)) ∧ ∀ B w0, B ≤ g → Below B w0 w → Below B w0 V := by
  subst hV
  have e1 : (((w.setCell ⟨g, 0, none⟩ a0).setCell ⟨g, 1, none⟩ a1).setCell ⟨g, 2, none⟩ a2).heap[g + 1]? = some (.cells #[b0, b1, b2] T (0, 0)) := by rw [row3_other _ _ _ (by omega)]; exact h1
  refine ⟨?_, row_set _ _ _ e1, fun B w0 hB hb => below_row (below_row hb hB _ _ _) (g := g + 1) (by omega) _ _ _⟩
  rw [row3_other _ _ _ (by omega)]; exact row_set _ _ _ h0

/-- what sureSteps gives: nothing, or two rows of the whole numbers, one behind the other -/
def SureOut (m n : Nat) (F S : ERow) (t : Bool) : Prop := F.2.2 = 0 ∨ ∃ i, 1 ≤ i ∧ (eros m n i).2 = F.2 ∧ (eros m n (i + 1)).2 = S.2 ∧ t = decide (i % 2 = 1) ∧ (∀ j, 1 ≤ j → j ≤ i + 1 → 0 < (eros m n j).1) ∧ F.2.1 < 4294967296 ∧ F.2.2 < 4294967296 ∧ S.2.1 < 4294967296 ∧ S.2.2 < 4294967296 ∧ F.2.2 ≠ 0
def SureRet (m n : Nat) (e : Ending) : Prop := ∃ (F S : ERow) (t : Bool), e = .returned (.tuple #[.agg (shv F), .agg (shv S), .bool t]) ∧ SureOut m n F S t
theorem sure_end {m n a b i : Nat} (h : Sure m n a b i) (hi : 1 ≤ i) : SureOut m n (shrow a b (i - 1)) (eros a b (i - 1)) (decide (i % 2 = 1)) := by
  match i, hi, h with
  | 1, _, _ => exact .inl rfl
  | 2, _, _ => exact .inl rfl
  | k + 3, _, h =>
    right
    have e1 := h.same (k + 1) (by omega)
    have e2 := h.same (k + 2) (by omega)
    have e3 := h.small (k + 1) (by omega)
    have e4 := h.small (k + 2) (by omega)
    have e5 := h.some_ (k + 1) (by omega) (by omega)
    refine ⟨k + 1, by omega, e1, e2, ?_, fun j j1 j2 => h.pos j j1 (by omega), e3.1, e3.2, e4.1, e4.2, ?_⟩
    · congr 1; apply propext; omega
    · show (eros a b (k + 1)).2.2 ≠ 0; omega

end Go.Proofs.YtkbghamkalidcaaGreat

namespace Go.Proofs.YtkbghamkalidcaaGreat
open Go.RowKit

/-- one step of a difference with a product -/
theorem dec_step {Z Z' ys : List Nat} {k c x y s c' : Nat} (hl : Z'.length = Z.length) (hk : k < Z.length) (hky : k < ys.length) (hd : Z'.drop k = Z.drop k) (hy : y = ys.getD k 0)
    (hv : Nl.val (Z'.take k) + x * Nl.val (ys.take k) = Nl.val (Z.take k) + 4294967296 ^ k * c) (hs : s + x * y + c = Z'.getD k 0 + 4294967296 * c') :
    Nl.val ((Z'.set k s).take (k + 1)) + x * Nl.val (ys.take (k + 1)) = Nl.val (Z.take (k + 1)) + 4294967296 ^ (k + 1) * c' := by
  refine Nl.sub_step hl hk hd hv (x * y) ?_ hs
  rw [Nl.val_take_succ _ _ hky, Nat.mul_add, ← hy, Nat.mul_left_comm x]

set_option maxHeartbeats 1000000 in
theorem decreaseTimes_any (g off n cap x : Nat) (A Z C ys : List Nat) (vb : Value) (w : World) (hn : Z.length = n) (hr : Row w g (A ++ (Z ++ C))) (ho : off = A.length) (hZ : Nl.Small Z) (hys : Nl.Small ys)
    (hb : AtP (· ≠ g) w vb ys) (hl : ys.length ≤ n) (hzl : n ≤ cap) (_hcap : cap ≤ 9223372036854775807) (hx : x < 4294967296) :
    Calls Tryz.prog 270 #[.slice (some ⟨g, off, none⟩) n cap, vb, .int .u32 x] w fun e w' =>
      ∃ Z' c, e = .returned (.int .u64 ((c : Nat) : Int)) ∧ c < 4294967296 ∧ Mid w w' g A Z' C ∧ Z'.length = n ∧ Nl.Small Z' ∧ Z'.drop ys.length = Z.drop ys.length ∧
        Nl.val (Z'.take ys.length) + x * Nl.val ys = Nl.val (Z.take ys.length) + 4294967296 ^ ys.length * c := by
  have hM := Lib.hid (show Mid w w g A Z C from ⟨hr, Only.refl g w⟩)
  have HO := Lib.hid ho
  have HNN := Lib.hid hn
  have sb := hb.short
  obtain ⟨b, cb, rfl, fb⟩ := hb.form
  have FB := Lib.hid fb
  clear hr ho hb fb hn
  go_enter Tryz.func270, Tryz.ntmps270
  go_wp2
  go_loopw [7, 17] (fun c i wr => ∃ (k : Nat) (d : Nat) (Z' : List Nat), k ≤ ys.length ∧ i = .int .i64 k ∧ c = .int .u64 (d : Int) ∧ d < 4294967296 ∧ Hid (Mid w wr g A Z' C) ∧ Hid (Z'.length = Z.length) ∧ Hid (Nl.Small Z') ∧ Hid (Z'.drop k = Z.drop k) ∧
      Hid (Nl.val (Z'.take k) + x * Nl.val (ys.take k) = Nl.val (Z.take k) + 4294967296 ^ k * d)) (fun _ i _ => (ys.length - (intOf i).toNat))
  case atStart => exact ⟨0, 0, Z, by omega, rfl, rfl, by omega, hM, rfl, hZ, rfl, by simp [Hid]⟩
  case round =>
    obtain ⟨k, d, Z', hk, rfl, rfl, hd, hm, hlen, hsm, hdr, hv⟩ := hrel
    by_cases hlt : k < ys.length
    · obtain ⟨y, hy⟩ : ∃ y, y = ys.getD k 0 := ⟨_, rfl⟩
      obtain ⟨z, hz⟩ : ∃ z, z = Z'.getD k 0 := ⟨_, rfl⟩
      have hz2 : z < 4294967296 := by rw [hz]; exact hsm.out.getD k
      have hy2 : y < 4294967296 := by rw [hy]; exact hys.getD k
      have cx := hm.out.cell HO.out (i := k) (by rw [hlen.out, HNN.out]; omega)
      rw [← hz] at cx
      have fx := hm.out.1.free (off + k)
      rcases FB.out with fb | ⟨bb, ob, rfl, hbg, hcb, -, hbb, hcy⟩
      · rw [fb] at hlt; simp at hlt
      have cy : wr.cell? ⟨bb, ob + k, none⟩ = some (.int .u32 (y : Int)) := by rw [hy]; exact hm.out.2.cell (hcy k hlt) (by simpa using hbg)
      have hp : x * y ≤ 4294967295 * 4294967295 := Nat.mul_le_mul (by omega) (by omega)
      have hpi : (x : Int) * (y : Int) = ((x * y : Nat) : Int) := by rw [Int.natCast_mul]
      obtain ⟨p, hpp⟩ : ∃ p, p = x * y := ⟨_, rfl⟩
      rw [← hpp] at hp hpi
      have Hz := Lib.hid hz
      have Hy := Lib.hid hy
      have Hp := Lib.hid hpp
      clear hz hy hcy hpp
      by_cases hbw : z < (p + d) % 4294967296
      · have t1 : decide ((z : Int) < ((p : Int) + (d : Int)) % 4294967296) = true := decide_eq_true (by omega)
        obtain ⟨s, hs⟩ : ∃ s, s = z + 4294967296 - (p + d) % 4294967296 := ⟨_, rfl⟩
        have hsub : ((z : Int) - ((p : Int) + (d : Int)) % 4294967296) % 4294967296 = (s : Int) := by omega
        have HR := Lib.hid (show s + p + d = z + 4294967296 * ((p + d) / 4294967296 + 1) ∧ s < 4294967296 ∧ (p + d) / 4294967296 + 1 < 4294967296 by omega)
        clear hs hbw
        go_wp2
        go_roundw
        case rel =>
          refine ⟨k + 1, (p + d) / 4294967296 + 1, Z'.set k s, by omega, by go_num, by go_num, HR.out.2.2, hm.out.set HO.out (by rw [hlen.out, HNN.out]; omega) _, ?_, ?_, ?_, ?_⟩
          · simpa [Hid] using hlen.out
          · exact hsm.out.set _ HR.out.2.1
          · rw [Hid, Nl.drop_set_succ]; exact Nl.drop_succ_of hdr.out
          · exact dec_step hlen.out (by rw [HNN.out]; omega) hlt hdr.out Hy.out hv.out (by rw [← Hz.out, ← Hp.out]; exact HR.out.1)
        case measure => simp [intOf] <;> omega
      · have t1 : decide ((z : Int) < ((p : Int) + (d : Int)) % 4294967296) = false := decide_eq_false (by omega)
        obtain ⟨s, hs⟩ : ∃ s, s = z - (p + d) % 4294967296 := ⟨_, rfl⟩
        have hsub : ((z : Int) - ((p : Int) + (d : Int)) % 4294967296) % 4294967296 = (s : Int) := by omega
        have HR := Lib.hid (show s + p + d = z + 4294967296 * ((p + d) / 4294967296) ∧ s < 4294967296 ∧ (p + d) / 4294967296 < 4294967296 by omega)
        clear hs hbw
        go_wp2
        go_roundw
        case rel =>
          refine ⟨k + 1, (p + d) / 4294967296, Z'.set k s, by omega, by go_num, by go_num, HR.out.2.2, hm.out.set HO.out (by rw [hlen.out, HNN.out]; omega) _, ?_, ?_, ?_, ?_⟩
          · simpa [Hid] using hlen.out
          · exact hsm.out.set _ HR.out.2.1
          · rw [Hid, Nl.drop_set_succ]; exact Nl.drop_succ_of hdr.out
          · exact dec_step hlen.out (by rw [HNN.out]; omega) hlt hdr.out Hy.out hv.out (by rw [← Hz.out, ← Hp.out]; exact HR.out.1)
        case measure => simp [intOf] <;> omega
    · go_wp2
      go_ret
      refine ⟨Z', d, rfl, hd, hm.out, by rw [hlen.out, HNN.out], hsm.out, ?_, ?_⟩
      · have := hdr.out
        rw [show k = ys.length from by omega] at this
        exact this
      · have := hv.out
        rw [show k = ys.length from by omega, List.take_of_length_le (Nat.le_refl ys.length)] at this
        exact this
end Go.Proofs.YtkbghamkalidcaaGreat
