/-
  Integers: where they lie in memory. What whole.Valid, signed and opposite do. Conditions: those that each theorem names.
-/
import Derived.Test.YtkbghamkalidcaaGreatFormsAll
import Derived.Test.YtkbghamkalidcaaGreatRefTrim
import Derived.Laws.Rows
namespace Go.Proofs.YtkbghamkalidcaaGreat
open Go.RowKit

/-- v is an integer: a sign, and a slice that reads xs -/
def AtI (w : World) (v : Value) (s : Bool) (xs : List Nat) : Prop := ∃ u, v = .agg #[.bool s, u] ∧ At w u xs
def negB (n : Int) : Bool := decide (n < 0)
def IsI (w : World) (v : Value) (n : Int) : Prop := AtI w v (negB n) (Nl.limbs n.natAbs)
def sgn (s : Bool) (m : Nat) : Int := if s = true then -(m : Int) else (m : Int)
def validI (s : Bool) (xs : List Nat) : Bool := validB xs && !(s && decide (xs.length = 0))

theorem AtI.below {w w' : World} {v : Value} {s : Bool} {xs : List Nat} (h : AtI w v s xs) (hb : Below w.heap.size w w') : AtI w' v s xs := by
  obtain ⟨u, h1, h2⟩ := h
  exact ⟨u, h1, h2.below hb⟩
theorem IsI.below {w w' : World} {v : Value} {n : Int} (h : IsI w v n) (hb : Below w.heap.size w w') : IsI w' v n := AtI.below h hb
theorem AtI.form {w : World} {v : Value} {s : Bool} {xs : List Nat} (h : AtI w v s xs) : ∃ a c, v = .agg #[.bool s, .slice a xs.length c] ∧ At w (.slice a xs.length c) xs := by
  obtain ⟨u, rfl, hu⟩ := h
  obtain ⟨a, c, rfl, -⟩ := hu.form
  exact ⟨a, c, rfl, hu⟩
theorem AtI.mk {w : World} {u : Value} {s : Bool} {xs : List Nat} (h : At w u xs) : AtI w (.agg #[.bool s, u]) s xs := ⟨u, rfl, h⟩
theorem limbs_nil {m : Nat} : (Nl.limbs m).length = 0 ↔ m = 0 := by
  constructor
  · intro h
    have h1 : Nl.limbs m = [] := List.eq_nil_of_length_eq_zero h
    have h2 := Nl.val_limbs m
    rw [h1] at h2
    exact h2.symm
  · intro h; rw [h, Nl.limbs_zero]; rfl
theorem sgn_abs (s : Bool) (m : Nat) : (sgn s m).natAbs = m := by
  rw [sgn]; split <;> omega
theorem sgn_neg (s : Bool) (m : Nat) : negB (sgn s m) = (s && decide (0 < m)) := by
  cases s
  · rw [negB, sgn, if_neg (by decide), Bool.false_and, decide_eq_false_iff_not]; omega
  · rw [negB, sgn, if_pos rfl, Bool.true_and]
    by_cases h : 0 < m
    · rw [decide_eq_true h, decide_eq_true_eq]; omega
    · rw [decide_eq_false h, decide_eq_false_iff_not]; omega
theorem sgn_self (n : Int) : sgn (negB n) n.natAbs = n := by
  rw [sgn, negB]
  by_cases h : n < 0
  · rw [if_pos (by rw [decide_eq_true h])]; omega
  · rw [if_neg (by rw [decide_eq_false h]; decide)]; omega
theorem validI_norm {s : Bool} {xs : List Nat} (hs : Nl.Small xs) (h : validI s xs = true) : s = negB (sgn s (Nl.val xs)) ∧ xs = Nl.limbs (sgn s (Nl.val xs)).natAbs ∧ (Nl.limbs (sgn s (Nl.val xs)).natAbs).length ≤ 1024 := by
  rw [validI, Bool.and_eq_true] at h
  obtain ⟨m, hm, hl⟩ := validB_norm hs h.1
  have hv : Nl.val xs = m := by rw [hm, Nl.val_limbs]
  rw [hv, sgn_neg, sgn_abs]
  refine ⟨?_, hm, hl⟩
  have h2 := h.2
  cases s
  · rfl
  · rw [Bool.true_and, Bool.not_eq_true', decide_eq_false_iff_not, hm, limbs_nil] at h2
    rw [Bool.true_and]; exact (decide_eq_true (by omega)).symm
theorem validI_of {n : Int} (h : (Nl.limbs n.natAbs).length ≤ 1024) : validI (negB n) (Nl.limbs n.natAbs) = true := by
  rw [validI, validB_limbs h, Bool.true_and, Bool.not_eq_true', Bool.and_eq_false_iff]
  by_cases h0 : n < 0
  · right; rw [decide_eq_false_iff_not, limbs_nil]; omega
  · left; rw [negB]; exact decide_eq_false h0

theorem below_one (w : World) (o : Obj) : Below w.heap.size w (w.alloc o) := (Below.refl _ _).alloc (Nat.le_refl _) _
set_option maxHeartbeats 1000000 in
theorem validI_any (v : Value) (s : Bool) (xs : List Nat) (w : World) (h : AtI w v s xs) :
    Calls Tryz.prog 46 #[v] w fun e w' => e = .returned (.bool (validI s xs)) ∧ Below w.heap.size w w' := by
  obtain ⟨a, c, rfl, hu⟩ := h.form
  obtain ⟨w1, hw1⟩ : ∃ w1, w1 = w.alloc (.cells #[.bool s, .slice a xs.length c] 25) := ⟨_, rfl⟩
  have hb1 : Below w.heap.size w w1 := by rw [hw1]; exact (Below.refl _ _).alloc (Nat.le_refl _) _
  have HV := Lib.hid (valid_any _ xs w1 (hu.below hb1))
  have HB := Lib.hid hb1
  rw [validI]
  clear h hu hb1
  cases hv : validB xs with
  | false =>
    have V := HV.out
    rw [hv] at V
    have HV' := Lib.hid V
    clear V HV hv
    go_enter Tryz.func46, Tryz.ntmps46
    go_wp2_with fail
    rw [← hw1]
    refine HV'.out.mono ?_
    rintro e w' ⟨rfl, rfl⟩
    go_wp2_with fail
    go_ret
    exact ⟨rfl, below_one w _⟩
  | true =>
    have V := HV.out
    rw [hv] at V
    have HV' := Lib.hid V
    clear V HV hv
    have c0 : w1.cell? ⟨w.heap.size, 0, none⟩ = some (.bool s) := by rw [hw1]; exact cell_of_row _ _ 0 _ _ (0, 0) (heap_alloc_new _ _)
    have c1 : w1.cell? ⟨w.heap.size, 1, none⟩ = some (.slice a xs.length c) := by rw [hw1]; exact cell_of_row _ _ 1 _ _ (0, 0) (heap_alloc_new _ _)
    cases s with
    | false =>
      go_enter Tryz.func46, Tryz.ntmps46
      go_wp2_with fail
      rw [← hw1]
      refine HV'.out.mono ?_
      rintro e w' ⟨rfl, rfl⟩
      go_wp2_with fail
      go_ret
      exact ⟨rfl, below_one w _⟩
    | true =>
      by_cases h0 : xs.length = 0
      · have e0 : ((xs.length : Int) == 0) = true := by simp [h0]
        rw [decide_eq_true h0]
        clear h0
        go_enter Tryz.func46, Tryz.ntmps46
        go_wp2_with fail
        rw [← hw1]
        refine HV'.out.mono ?_
        rintro e w' ⟨rfl, rfl⟩
        go_wp2_with fail
        go_ret
        exact ⟨rfl, below_one w _⟩
      · have e0 : ((xs.length : Int) == 0) = false := by rw [beq_eq_false_iff_ne]; omega
        rw [decide_eq_false h0]
        clear h0
        go_enter Tryz.func46, Tryz.ntmps46
        go_wp2_with fail
        rw [← hw1]
        refine HV'.out.mono ?_
        rintro e w' ⟨rfl, rfl⟩
        go_wp2_with fail
        go_ret
        exact ⟨rfl, below_one w _⟩

/-- a magnitude with a sign; 0 has none -/
theorem signed_any (s : Bool) (v : Value) (xs : List Nat) (w : World) (h : At w v xs) :
    Calls Tryz.prog 124 #[.bool s, v] w fun e w' => e = .returned (.agg #[.bool (s && decide (0 < xs.length)), v]) ∧ Below w.heap.size w w' := by
  obtain ⟨a, c, rfl, -⟩ := h.form
  clear h
  cases s with
  | false =>
    go_enter Tryz.func124, Tryz.ntmps124
    go_wp2_with fail
    refine bodyPost_ret (v := .agg #[.bool false, .slice a xs.length c]) (results_cell_row Tryz.results124 _ _ w.heap.size 78 _ (0, 0) _ rfl (heap_alloc_new _ _) Tryz.underlying78 rfl (by kernel_rfl)) rfl ?_
    exact ⟨rfl, below_one w _⟩
  | true =>
    by_cases h0 : 0 < xs.length
    · have e0 : decide (0 < xs.length) = true := decide_eq_true h0
      rw [e0]
      go_enter Tryz.func124, Tryz.ntmps124
      go_wp2_with fail
      refine bodyPost_ret (v := .agg #[.bool true, .slice a xs.length c]) (results_cell_row Tryz.results124 _ _ w.heap.size 78 _ (0, 0) _ rfl (heap_alloc_new _ _) Tryz.underlying78 rfl (by kernel_rfl)) rfl ?_
      exact ⟨rfl, below_one w _⟩
    · have e0 : decide (0 < xs.length) = false := decide_eq_false h0
      rw [e0]
      go_enter Tryz.func124, Tryz.ntmps124
      go_wp2_with fail
      refine bodyPost_ret (v := .agg #[.bool false, .slice a xs.length c]) (results_cell_row Tryz.results124 _ _ w.heap.size 78 _ (0, 0) _ rfl (heap_alloc_new _ _) Tryz.underlying78 rfl (by kernel_rfl)) rfl ?_
      exact ⟨rfl, below_one w _⟩

/-- a number with a sign -/
theorem signed_num (s : Bool) (v : Value) (m : Nat) (w : World) (h : At w v (Nl.limbs m)) :
    Calls Tryz.prog 124 #[.bool s, v] w fun e w' => (∃ t, e = .returned (.agg #[.bool t, v]) ∧ t = negB (sgn s m)) ∧ Below w.heap.size w w' := by
  refine (signed_any s v _ w h).mono ?_
  rintro e w' ⟨rfl, hb⟩
  refine ⟨⟨_, rfl, ?_⟩, hb⟩
  rw [sgn_neg]
  by_cases h0 : 0 < m
  · rw [decide_eq_true h0, decide_eq_true (Nl.len_pos (by omega))]
  · rw [decide_eq_false h0, decide_eq_false (fun h => h0 (Nat.pos_of_ne_zero fun h1 => by rw [h1, Nl.limbs_zero] at h; exact absurd h (by decide)))]
theorem isI_mk {w : World} {v : Value} {s t : Bool} {m : Nat} {n : Int} (h : At w v (Nl.limbs m)) (ht : t = negB (sgn s m)) (hn : sgn s m = n) : IsI w (.agg #[.bool t, v]) n := by
  subst hn
  rw [ht, IsI, sgn_abs]
  exact AtI.mk h

/-- arguments: a sign, a slice, and what it reads -/
abbrev IntArg : Type := Bool × Value × List Nat
def noArg : IntArg := (false, .nilFunc, [])
def okI (p : IntArg) : Bool := validI p.1 p.2.2
/-- the integers that a call looks at -/
def GivenI (w : World) (b : Nat) (vs : List IntArg) : Prop := ∀ i, i < vs.length →
  w.cell? ⟨b, i * 2, none⟩ = some (.bool (vs.getD i noArg).1) ∧ w.cell? ⟨b, i * 2 + 1, none⟩ = some (vs.getD i noArg).2.1 ∧ At w (vs.getD i noArg).2.1 (vs.getD i noArg).2.2
abbrev fault (k : Int) : Ending := .panicked [{ v := .iface 177 (.agg #[.int .i64 k, .int .i64 0]), recovered := false }]

set_option maxHeartbeats 1000000 in
theorem mustBeValid_any (b : Nat) (vs : List IntArg) (w : World) (hg : GivenI w b vs) (hb : b < w.heap.size) (hl : vs.length ≤ 100) :
    Calls Tryz.prog 76 #[.slice (some ⟨b, 0, none⟩) vs.length vs.length] w fun e w' => Below w.heap.size w w' ∧
      (((∀ p ∈ vs, okI p = true) ∧ e = .returned (.tuple #[])) ∨ ((∃ p ∈ vs, okI p = false) ∧ e = fault 1)) := by
  have HG := Lib.hid hg
  have HB := Lib.hid hb
  clear hg hb
  go_enter Tryz.func76, Tryz.ntmps76
  go_wp2_with fail
  go_loopw [6] (fun i wr => ∃ k : Nat, k ≤ vs.length ∧ i = .int .i64 k ∧ Hid (∀ j, j < k → okI (vs.getD j noArg) = true) ∧ Hid (Below w.heap.size w wr)) (fun i _ => vs.length - (intOf i).toNat)
  case atStart => exact ⟨0, Nat.zero_le _, rfl, fun j hj => by omega, Below.refl _ _⟩
  case round =>
    obtain ⟨k, hk, rfl, hval, hbel⟩ := hrel
    by_cases hlt : k < vs.length
    · obtain ⟨g1, g2, g3⟩ := HG.out k hlt
      have hmem : vs.getD k noArg ∈ vs := by
        rw [show vs.getD k noArg = vs[k] from by simp [hlt]]
        exact List.getElem_mem hlt
      obtain ⟨p, hp⟩ : ∃ p, p = vs.getD k noArg := ⟨_, rfl⟩
      rw [← hp] at g1 g2 g3 hmem
      obtain ⟨s, v, xs⟩ := p
      simp only at g1 g2 g3
      obtain ⟨a, c, rfl, -⟩ := g3.form
      have c1 := (hbel.out.cell (p := ⟨b, k * 2, none⟩) HB.out).trans g1
      have c2 := (hbel.out.cell (p := ⟨b, k * 2 + 1, none⟩) HB.out).trans g2
      have HP := Lib.hid (And.intro hp hmem)
      have H3 := Lib.hid (g3.below hbel.out)
      clear g1 g2 g3 hp hmem
      go_wp2_with fail
      have hb1 := below_one wr (.cells #[.bool s, .slice a xs.length c] 25)
      have HV := Lib.hid (validI_any _ s xs _ (AtI.mk (H3.out.below hb1)))
      have HB1 := Lib.hid (hbel.out.trans (hb1.mono hbel.out.size))
      clear hb1
      refine HV.out.mono ?_
      rintro e w2 ⟨rfl, hb2⟩
      have B2 := Lib.hid (HB1.out.trans (hb2.mono HB1.out.size))
      clear hb2 HV HB1 H3
      cases hvi : validI s xs with
      | true =>
        have HVI := Lib.hid hvi
        clear hvi
        go_wp2_with fail
        refine (must_yes _ _).mono ?_
        rintro e w' ⟨rfl, rfl⟩
        go_wp2_with fail
        go_roundw
        case rel =>
          refine ⟨k + 1, by omega, by go_num, fun j hj => ?_, B2.out⟩
          rcases Nat.lt_or_eq_of_le (Nat.le_of_lt_succ hj) with hj | rfl
          · exact hval.out j hj
          · rw [← HP.out.1]; exact HVI.out
        case measure => simp [intOf] <;> omega
      | false =>
        have HVI := Lib.hid hvi
        clear hvi
        go_wp2_with fail
        refine (must_no _ _).mono ?_
        rintro e w' ⟨rfl, rfl⟩
        first
          | exact ⟨rfl, B2.out, .inr ⟨⟨_, HP.out.2, HVI.out⟩, rfl⟩⟩
          | exact ⟨B2.out, .inr ⟨⟨_, HP.out.2, HVI.out⟩, rfl⟩⟩
    · have hall : ∀ p ∈ vs, okI p = true := by
        intro p hp
        obtain ⟨j, hj, rfl⟩ := List.getElem_of_mem hp
        have := hval.out j (by omega)
        rwa [show vs.getD j noArg = vs[j] from by simp [hj]] at this
      have HALL := Lib.hid hall
      clear hall
      go_wp2_with fail
      go_end0
      exact ⟨hbel.out, .inl ⟨HALL.out, rfl⟩⟩

set_option maxHeartbeats 1000000 in
/-- a copy of a number -/
theorem iclone_any (v : Value) (xs : List Nat) (w : World) (h : At w v xs) (hl : xs.length ≤ 1000000) :
    Calls Tryz.prog 138 #[v] w fun e w' => (∃ u, e = .returned u ∧ AtP (w.heap.size ≤ ·) w' u xs) ∧ Below w.heap.size w w' := by
  obtain ⟨i0, hi, hz0, hz1, hz2⟩ := info_parts infoWord4
  have HI := Lib.hid (And.intro hi (And.intro hz0 (And.intro hz1 hz2)))
  clear hi hz0 hz1 hz2
  rcases h with ⟨rfl, rfl⟩ | ⟨b, off, cap, rfl, -, hc, hm, hb, hx⟩
  · have hnil : ∀ W, (binOp .eql 23 (.slice none 0 0) (.slice none 0 0)).run Tryz.prog W = .ok (.bool true) W := fun W => by kernel_rfl
    go_enter Tryz.func138, Tryz.ntmps138
    go_wp2_with fail
    go_ret
    exact ⟨⟨_, rfl, .inl ⟨rfl, rfl⟩⟩, Below.refl _ _⟩
  have HC := Lib.hid (show Cells w b off xs from hx)
  have HL := Lib.hid (And.intro hl hc)
  clear hx hl
  have hnil : ∀ W, (binOp .eql 23 (.slice (some ⟨b, off, none⟩) xs.length cap) (.slice none 0 0)).run Tryz.prog W = .ok (.bool false) W := fun W => by kernel_rfl
  go_enter Tryz.func138, Tryz.ntmps138
  go_wp2_with (at_builtin; refine wpList_append_own _ rfl (.tmp 5) (.tmp 6) 23 rfl w.heap.size 80 i0 (.int .u32 0) 1 4 Tryz.underlying23 HI.out.1 HI.out.2.1 HI.out.2.2.1 HI.out.2.2.2 rfl (by decide) (.slice (some ⟨w.heap.size, 0, none⟩) 0 0) 0 [] rfl (owns_empty w) ⟨b, off, none⟩ xs.length cap (vals xs) rfl ?_ ?_ ?_ ?_ ?_ ?_ ?_)
  · rw [vals_length, Nat.mul_one]
  · intro j u hu
    have := vals_cells (HC.out.alloc hb (.cells #[] 80)) xs.length j u
    rw [List.take_of_length_le (Nat.le_refl _)] at this
    exact this hu
  · intro u hu
    obtain ⟨x, _, rfl⟩ := List.mem_map.1 hu
    rfl
  · have := HL.out.1; simp only [maxLen]; omega
  · have := HL.out.1; omega
  · simp
  intro v' w1 ho hg _
  have HO := Lib.hid (atP_of_owns ho)
  have h1 : Below w.heap.size w (w.alloc (.cells #[] 80)) := (Below.refl _ _).alloc (Nat.le_refl _) _
  have hbl : Below w.heap.size w w1 := by
    refine ⟨hg.os, hg.tape, hg.output, Nat.le_trans h1.size hg.size, fun q hq => ?_⟩
    rw [← h1.block q hq]
    exact hg.block q (by simp; omega) (by
      intro h
      have : q = w.heap.size := by simpa [Value.ownBlock] using h
      omega)
  have HB := Lib.hid hbl
  clear ho hg hbl h1
  go_wp2_with fail
  go_ret
  exact ⟨⟨v', rfl, HO.out⟩, HB.out⟩
end Go.Proofs.YtkbghamkalidcaaGreat
