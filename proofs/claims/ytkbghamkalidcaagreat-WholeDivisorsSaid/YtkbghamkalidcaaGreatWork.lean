/-
  What kept, one and count of package whole do. Conditions: those that each theorem names.
-/
import Derived.Test.YtkbghamkalidcaaGreatInts
namespace Go.Proofs.YtkbghamkalidcaaGreat
open Go.RowKit

theorem two_new (w : World) (o p : Obj) : Below w.heap.size w ((w.alloc o).alloc p) := ((Below.refl _ _).alloc (Nat.le_refl _) _).alloc (by simp) _

theorem ibox_set {w : World} {g : Nat} {T : TypeId} {a b : Value} (a' b' : Value) (h : w.heap[g]? = some (.cells #[a, b] T (0, 0))) : ((w.setCell ⟨g, 0, none⟩ a').setCell ⟨g, 1, none⟩ b').heap[g]? = some (.cells #[a', b'] T (0, 0)) := by
  have h1 := heap_setCell_same w g 0 _ _ a' h
  have h2 := heap_setCell_same _ g 1 _ _ b' h1
  exact h2
/-- a number does not lie in a block that holds a sign and a slice -/
theorem at_ibox {q : Nat → Prop} {w : World} {g : Nat} {T : TypeId} {s : Bool} {p : Option Addr} {l c : Nat} {v : Value} {xs : List Nat} (a' b' : Value) (h : AtP q w v xs) (hbx : w.heap[g]? = some (.cells #[.bool s, .slice p l c] T (0, 0))) :
    AtP q ((w.setCell ⟨g, 0, none⟩ a').setCell ⟨g, 1, none⟩ b') v xs := by
  rcases h with h | ⟨b, off, cap, h1, h2, h3, h4, h5, h6⟩
  · exact .inl h
  · refine .inr ⟨b, off, cap, h1, h2, h3, h4, by simpa [World.setCell] using h5, fun i hi => ?_⟩
    have hc := h6 i hi
    by_cases hb : b = g
    · subst hb
      rw [cell_of_row w b (off + i) _ _ _ hbx] at hc
      match hj : off + i with
      | 0 => rw [hj] at hc; simp at hc
      | 1 => rw [hj] at hc; simp at hc
      | j + 2 => rw [hj] at hc; simp at hc
    · have ho : Only g w ((w.setCell ⟨g, 0, none⟩ a').setCell ⟨g, 1, none⟩ b') := grown_trans (Only.setCell g 0 a' w) (Only.setCell g 1 b' _)
      exact ho.cell hc (by simpa using hb)
theorem below_ibox {B : Nat} {w w' : World} (h : Below B w w') {g : Nat} (hg : B ≤ g) (a b : Value) : Below B w ((w'.setCell ⟨g, 0, none⟩ a).setCell ⟨g, 1, none⟩ b) :=
  (h.setCell (p := ⟨g, 0, none⟩) hg _).setCell (p := ⟨g, 1, none⟩) hg _

set_option maxHeartbeats 1000000 in
theorem ikept_yes (v : Value) (s : Bool) (xs : List Nat) (w : World) (h : AtI w v s xs) (hl : xs.length ≤ 1024) :
    Calls Tryz.prog 78 #[v] w fun e w' => (∃ u, e = .returned (.agg #[.bool s, u]) ∧ AtP (w.heap.size ≤ ·) w' u xs) ∧ Below w.heap.size w w' := by
  obtain ⟨a, c, rfl, hu⟩ := h.form
  obtain ⟨W, hW⟩ : ∃ W, W = (w.alloc (.cells #[.bool s, .slice a xs.length c] 78)).alloc (.cells #[.bool false, .slice none 0 0] 25) := ⟨_, rfl⟩
  have hb : Below w.heap.size w W := by rw [hW]; exact two_new w _ _
  have hs : W.heap.size = w.heap.size + 2 := by rw [hW]; simp
  have hP : W.heap[w.heap.size]? = some (.cells #[.bool s, .slice a xs.length c] 78 (0, 0)) := by rw [hW]; exact heap_alloc2_old w _ _
  have hQ : W.heap[w.heap.size + 1]? = some (.cells #[.bool false, .slice none 0 0] 25 (0, 0)) := by rw [hW]; exact heap_alloc2_new w _ _
  have c0 : W.cell? ⟨w.heap.size, 0, none⟩ = some (.bool s) := cell_of_row _ _ 0 _ _ (0, 0) hP
  have c1 : W.cell? ⟨w.heap.size, 1, none⟩ = some (.slice a xs.length c) := cell_of_row _ _ 1 _ _ (0, 0) hP
  have e0 : decide ((xs.length : Int) ≤ 1024) = true := decide_eq_true (by omega)
  have H := Lib.hid (And.intro hb (And.intro hs (And.intro hP (And.intro hQ (And.intro hu hl)))))
  clear h hb hs hP hQ hu
  go_enter Tryz.func78, Tryz.ntmps78
  go_upto_region 1 with fail
  rw [← hW]
  clear hW
  go_upto_region 2 with (go_at_call 55; refine (must_yes _ _).mono ?_; rintro e w' ⟨rfl, rfl⟩)
  have hcl := iclone_any _ xs W.drew (H.out.2.2.2.2.1.below (H.out.1.trans (below_drewN W 1 _))) (by omega)
  have HCL := Lib.hid hcl
  have k0 := c0
  clear hcl hl
  go_region_with (go_at_call 138; refine HCL.out.mono ?_; rintro e w2 ⟨⟨u, rfl, hu2⟩, hb2⟩; obtain ⟨pu, cu, rfl, -⟩ := hu2.form; have d0 := (hb2.cell (p := ⟨w.heap.size, 0, none⟩) (show w.heap.size < W.heap.size from lt_of_block H.out.2.2.1)).trans c0; have BQ := (hb2.block (w.heap.size + 1) (show w.heap.size + 1 < W.heap.size from lt_of_block H.out.2.2.2.1)).trans H.out.2.2.2.1; have g0 := cell_of_row _ _ 0 _ _ (0, 0) BQ; have g1 := cell_of_row _ _ 1 _ _ (0, 0) BQ; have f0 := frozen_of_row _ _ 0 _ _ BQ; have f1 := frozen_of_row _ _ 1 _ _ BQ; have H2 := Lib.hid (And.intro hu2 (And.intro hb2 BQ)); clear hu2 hb2 BQ)
  all_goals
    go_wp2_with fail
    refine bodyPost_ret (v := .agg #[.bool s, .slice pu xs.length cu]) (results_cell_row Tryz.results78 _ _ (w.heap.size + 1) 25 _ (0, 0) _ rfl (ibox_set _ _ H2.out.2.2) Tryz.underlying25 rfl (by kernel_rfl)) rfl ?_
    exact ⟨⟨_, rfl, (at_ibox _ _ H2.out.1 H2.out.2.2).mono (fun _ _ h => Nat.le_trans H.out.1.size h)⟩, below_ibox (H.out.1.trans ((below_drewN W 1 W.heap.size).mono H.out.1.size |>.trans (H2.out.2.1.mono (show w.heap.size ≤ W.heap.size from H.out.1.size)))) (Nat.le_succ _) _ _⟩

theorem ikept_no (v : Value) (s : Bool) (xs : List Nat) (w : World) (h : AtI w v s xs) (hl : ¬ xs.length ≤ 1024) :
    Calls Tryz.prog 78 #[v] w fun e w' => e = fault 2 ∧ Below w.heap.size w w' := by
  obtain ⟨a, c, rfl, hu⟩ := h.form
  have e0 : decide ((xs.length : Int) ≤ 1024) = false := decide_eq_false (by omega)
  clear h hu hl
  go_enter Tryz.func78, Tryz.ntmps78
  go_wp2_with fail
  refine (must_no _ _).mono ?_
  rintro e w' ⟨rfl, rfl⟩
  first
    | exact ⟨rfl, rfl, two_new w _ _⟩
    | exact ⟨rfl, two_new w _ _⟩

/-- what a piece of work makes: an integer, or one of the package's errors (k is not 0 then) -/
def IntDoes (G : FuncId) (caps : Array Value) (w : World) (k : Int) (n : Int) : Prop := ∀ W, Below w.heap.size w W → Calls Tryz.prog G caps W fun e w' => Below W.heap.size W w' ∧
  ((k = 0 ∧ ∃ v, e = .returned v ∧ IsI w' v n) ∨ (k ≠ 0 ∧ e = fault k))
/-- the error that a call ends in -/
def codeI (k : Int) (n : Int) : Int := if k ≠ 0 then k else if (Nl.limbs n.natAbs).length ≤ 1024 then 0 else 2
/-- the results of a call -/
def WOut (w w' : World) (e : Ending) (c : Int) (n : Int) : Prop := (∃ v, e = .returned (.tuple #[v, .int .i64 c]) ∧ (c = 0 → IsI w' v n) ∧ (c ≠ 0 → v = .agg #[.bool false, .slice none 0 0])) ∧ Below w.heap.size w w'

theorem givenI_below {w W : World} {b : Nat} {vs : List IntArg} (h : GivenI w b vs) (hb : b < w.heap.size) (hw : Below w.heap.size w W) : GivenI W b vs := by
  intro i hi
  obtain ⟨h1, h2, h3⟩ := h i hi
  exact ⟨(hw.cell (p := ⟨b, i * 2, none⟩) hb).trans h1, (hw.cell (p := ⟨b, i * 2 + 1, none⟩) hb).trans h2, h3.below hw⟩

set_option maxHeartbeats 1000000 in
/-- the work inside -/
theorem ione1_any (G : FuncId) (caps : Array Value) (w : World) (k : Int) (n : Int) (A K N b : Nat) (vs : List IntArg) (hg : GivenI w b vs) (hb : b < w.heap.size) (hl : vs.length ≤ 100)
    (hA : w.heap[A]? = some (.cells #[.slice (some ⟨b, 0, none⟩) vs.length vs.length] 28 (0, 0)))
    (hK : w.heap[K]? = some (.cells #[.func (.func G) #[] caps] 79 (0, 0))) (hN : w.heap[N]? = some (.cells #[.bool false, .slice none 0 0] 25 (0, 0)))
    (h : (∀ p ∈ vs, okI p = true) → IntDoes G caps w k n) (hF : ∀ args w, (callFunc G args).run Tryz.prog w = .ok (.enter G args) w) :
    Calls Tryz.prog 108 #[.pointer (some ⟨A, 0, none⟩), .pointer (some ⟨K, 0, none⟩), .pointer (some ⟨N, 0, none⟩)] w fun e w' => w.grownBy w' (some N) ∧
      ∃ c s p l cp, w'.heap[N]? = some (.cells #[.bool s, .slice p l cp] 25 (0, 0)) ∧ (((∀ p ∈ vs, okI p = true) ∧ c = codeI k n) ∨ ((∃ p ∈ vs, okI p = false) ∧ c = 1)) ∧
      ((c = 0 ∧ e = .returned (.tuple #[]) ∧ s = negB n ∧ AtP (w.heap.size ≤ ·) w' (.slice p l cp) (Nl.limbs n.natAbs)) ∨ (c ≠ 0 ∧ e = fault c ∧ s = false ∧ p = none ∧ l = 0 ∧ cp = 0)) := by
  have ha := cell_of_one hA
  have hk := cell_of_one hK
  have hKl := lt_of_block hK
  have hNl := lt_of_block hN
  have HM := Lib.hid (mustBeValid_any b vs w hg hb hl)
  have H := Lib.hid h
  have HN := Lib.hid (And.intro hN (And.intro hNl (And.intro hKl hK)))
  clear hg h hN hNl hK hKl hA
  go_enter Tryz.func108, Tryz.ntmps108
  go_wp2_with fail
  refine HM.out.mono ?_
  rintro e w1 ⟨hb1, ⟨hall, rfl⟩ | ⟨hex, rfl⟩⟩
  · have hw := Lib.hid (H.out hall w1 hb1)
    have HALL := Lib.hid hall
    have HB1 := Lib.hid hb1
    have hk1 := (hb1.cell (p := ⟨K, 0, none⟩) HN.out.2.2.1).trans hk
    clear hall hb1
    go_wp2_with fail
    refine hw.out.mono ?_
    rintro e w2 ⟨hb2, ⟨rfl, v, rfl, hv⟩ | ⟨hk0, rfl⟩⟩
    · have HB2 := Lib.hid (HB1.out.trans (hb2.mono HB1.out.size))
      have HV := Lib.hid hv
      clear hb2 hv
      by_cases hlen : (Nl.limbs n.natAbs).length ≤ 1024
      · have hc0 : codeI 0 n = 0 := by simp [codeI, hlen]
        have HC := Lib.hid hc0
        clear hc0
        go_wp2_with fail
        refine (ikept_yes v _ _ w2 HV.out hlen).mono ?_
        rintro e w3 ⟨⟨u, rfl, hu⟩, hb3⟩
        obtain ⟨pu, cu, rfl, -⟩ := hu.form
        have hu := hu.mono (fun _ _ h => Nat.le_trans HB2.out.size h)
        have B3 := Lib.hid (HB2.out.trans (hb3.mono HB2.out.size))
        have BN := (B3.out.block N HN.out.2.1).trans HN.out.1
        have g0 := cell_of_row _ _ 0 _ _ (0, 0) BN
        have g1 := cell_of_row _ _ 1 _ _ (0, 0) BN
        have f0 := frozen_of_row _ _ 0 _ _ BN
        have f1 := frozen_of_row _ _ 1 _ _ BN
        have HU := Lib.hid (And.intro hu BN)
        clear hu hb3 BN
        go_wp2_with fail
        go_end0
        refine ⟨grown_trans (grown_of_below B3.out) (grown_trans (Only.setCell N 0 _ w3) (Only.setCell N 1 _ _)), 0, negB n, pu, _, cu, ibox_set _ _ HU.out.2, .inl ⟨HALL.out, HC.out.symm⟩, .inl ⟨rfl, rfl, rfl, at_ibox _ _ HU.out.1 HU.out.2⟩⟩
      · have hc2 : codeI 0 n = 2 := by simp [codeI, hlen]
        have HC := Lib.hid hc2
        clear hc2
        go_wp2_with fail
        refine (ikept_no v _ _ w2 HV.out hlen).mono ?_
        rintro e w3 ⟨rfl, hb3⟩
        have B3 := HB2.out.trans (hb3.mono HB2.out.size)
        refine ⟨rfl, grown_of_below B3, 2, false, none, 0, 0, (B3.block N HN.out.2.1).trans HN.out.1, .inl ⟨HALL.out, HC.out.symm⟩, .inr ⟨by decide, rfl, rfl, rfl, rfl, rfl⟩⟩
    · have B2 := HB1.out.trans (hb2.mono HB1.out.size)
      have hc : codeI k n = k := by simp [codeI, hk0]
      exact ⟨rfl, grown_of_below B2, k, false, none, 0, 0, (B2.block N HN.out.2.1).trans HN.out.1, .inl ⟨HALL.out, hc.symm⟩, .inr ⟨hk0, rfl, rfl, rfl, rfl, rfl⟩⟩
  · exact ⟨rfl, grown_of_below hb1, 1, false, none, 0, 0, (hb1.block N HN.out.2.1).trans HN.out.1, .inr ⟨hex, rfl⟩, .inr ⟨by decide, rfl, rfl, rfl, rfl, rfl⟩⟩

theorem three_new (w : World) (o p q : Obj) : Below w.heap.size w (((w.alloc o).alloc p).alloc q) := (two_new w o p).alloc (by simp; omega) _
theorem IntDoes.mono {G : FuncId} {caps : Array Value} {w W : World} {k : Int} {n : Int} (h : IntDoes G caps w k n) (hb : Below w.heap.size w W) : IntDoes G caps W k n :=
  fun V hV => h V (hb.trans (hV.mono hb.size))
/-- what holds when the call that catches is over -/
def IOneR (w W0 : World) (vs : List IntArg) (k n : Int) (c : Int) (w1 : World) : Prop :=
  (((∀ p ∈ vs, okI p = true) ∧ c = codeI k n) ∨ ((∃ p ∈ vs, okI p = false) ∧ c = 1)) ∧ Below w.heap.size w w1 ∧ W0.heap.size + 2 ≤ w1.heap.size ∧
    ∃ s p l cp, w1.heap[w.heap.size + 2]? = some (.cells #[.bool s, .slice p l cp] 25 (0, 0)) ∧ (c = 0 → s = negB n ∧ AtP (W0.heap.size + 2 ≤ ·) w1 (.slice p l cp) (Nl.limbs n.natAbs)) ∧ (c ≠ 0 → s = false ∧ p = none ∧ l = 0 ∧ cp = 0)
/-- what is read stays where the variables of the call that catches are written -/
theorem AtP.caught {q : Nat → Prop} {w w' : World} {v : Value} {xs : List Nat} {P Q : Nat} {k a : Int} (h : AtP q w v xs) (hc : Caught w w' P Q k a) (hq : ∀ b, q b → b ≠ P ∧ b ≠ Q) : AtP q w' v xs := by
  rcases h with h | ⟨b, off, cap, h1, h2, h3, h4, h5, h6⟩
  · exact .inl h
  · refine .inr ⟨b, off, cap, h1, h2, h3, h4, Nat.lt_of_lt_of_le h5 hc.size, fun i hi => ?_⟩
    have hsame := hc.same b h5 (hq b h2).1 (hq b h2).2
    rw [← h6 i hi]
    simp only [World.cell?]
    rw [hsame]

theorem load_int {w : World} {g : Nat} {t : TypeId} {a b : Value} (hg : w.heap[g]? = some (.cells #[a, b] t (0, 0))) : (loadVar 25 ⟨g, 0, none⟩).run Tryz.prog w = .ok (.agg #[a, b]) w :=
  run_loadVar_row w g t 25 #[a, b] (0, 0) _ hg Tryz.underlying25 rfl (by kernel_rfl)
theorem results_int1 {fn : Func} {p q : Tmp} {ty : TypeId} (h : fn.results = #[.cell p ty, .tmp q]) (tmps : Array Value) (w : World) (g : Nat) (x u : Value)
    (hp : tmps.getD p undef = .pointer (some ⟨g, 0, none⟩)) (hq : tmps.getD q undef = u) (hl : (loadVar ty ⟨g, 0, none⟩).run Tryz.prog w = .ok x w) :
    (results fn tmps).run Tryz.prog w = .ok (.tuple #[x, u]) w := by
  have hp' : tmps[p]?.getD undef = .pointer (some ⟨g, 0, none⟩) := by simpa using hp
  have hq' : tmps[q]?.getD undef = u := by simpa using hq
  simp [results, h, hp', hq', asAddr, hl]

set_option maxHeartbeats 1000000 in
theorem ione_any (G : FuncId) (caps : Array Value) (w : World) (k : Int) (n : Int) (b : Nat) (vs : List IntArg) (hg : GivenI w b vs) (hb : b < w.heap.size) (hl : vs.length ≤ 100)
    (h : (∀ p ∈ vs, okI p = true) → IntDoes G caps w k n) (hF : ∀ args w, (callFunc G args).run Tryz.prog w = .ok (.enter G args) w) :
    Calls Tryz.prog 47 #[.func (.func G) #[] caps, .slice (some ⟨b, 0, none⟩) vs.length vs.length] w fun e w' => ∃ c, (((∀ p ∈ vs, okI p = true) ∧ c = codeI k n) ∨ ((∃ p ∈ vs, okI p = false) ∧ c = 1)) ∧ WOut w w' e c n := by
  have hmf : ∀ (fn : Fn) (first cap : Array Value) (w : World), (Instr.makeFunc fn first cap).run Tryz.prog w = .ok (.func fn first cap) w := fun _ _ _ _ => rfl
  obtain ⟨W0, hW0⟩ : ∃ W0, W0 = ((w.alloc (.cells #[.func (.func G) #[] caps] 79)).alloc (.cells #[.slice (some ⟨b, 0, none⟩) vs.length vs.length] 28)).alloc (.cells #[.bool false, .slice none 0 0] 25) := ⟨_, rfl⟩
  have hb0 : Below w.heap.size w W0 := by rw [hW0]; exact three_new w _ _ _
  have hs0 : W0.heap.size = w.heap.size + 3 := by rw [hW0]; simp
  have hK : W0.heap[w.heap.size]? = some (.cells #[.func (.func G) #[] caps] 79 (0, 0)) := by
    rw [hW0]; exact (Below.heap_alloc _ _ _ (by simp; omega)).trans (heap_alloc2_old w _ _)
  have hA : W0.heap[w.heap.size + 1]? = some (.cells #[.slice (some ⟨b, 0, none⟩) vs.length vs.length] 28 (0, 0)) := by
    rw [hW0]; exact (Below.heap_alloc _ _ _ (by simp)).trans (heap_alloc2_new w _ _)
  have hN : W0.heap[w.heap.size + 2]? = some (.cells #[.bool false, .slice none 0 0] 25 (0, 0)) := by
    rw [hW0]
    have := heap_alloc_new ((w.alloc (.cells #[.func (.func G) #[] caps] 79)).alloc (.cells #[.slice (some ⟨b, 0, none⟩) vs.length vs.length] 28)) (.cells #[.bool false, .slice none 0 0] 25)
    simpa using this
  have HCALL := Lib.hid (call_any 108 #[.pointer (some ⟨w.heap.size + 1, 0, none⟩), .pointer (some ⟨w.heap.size, 0, none⟩), .pointer (some ⟨w.heap.size + 2, 0, none⟩)] W0 (fun c a w1 => a = 0 ∧ IOneR w W0 vs k n c w1) (fun V hV hsV => by
    have hwV := hb0.trans (hV.mono hb0.size)
    refine (ione1_any G caps V k n (w.heap.size + 1) w.heap.size (w.heap.size + 2) b vs (givenI_below hg hb hwV) (Nat.lt_of_lt_of_le hb hwV.size) hl ((hV.block _ (by omega)).trans hA) ((hV.block _ (by omega)).trans hK) ((hV.block _ (by omega)).trans hN) (fun hall => (h hall).mono hwV) hF).mono ?_
    rintro e w1 ⟨hgr, c, s, p, l, cp, hcell, hc, hr⟩
    have hbw : Below w.heap.size w w1 := hwV.grown hgr hwV.size (fun j hj => by cases hj; omega)
    refine ⟨fun j h1 h2 => hgr.block j h2 (by intro hj; cases hj; omega), ?_⟩
    rcases hr with ⟨rfl, rfl, hs, hat⟩ | ⟨hc0, rfl, h1, h2, h3, h4⟩
    · exact .inl ⟨rfl, rfl, hc, hbw, by have := hgr.size; omega, s, p, l, cp, hcell, fun _ => ⟨hs, by rw [hsV] at hat; exact hat⟩, fun h => absurd rfl h⟩
    · exact .inr ⟨c, 0, rfl, rfl, hc, hbw, by have := hgr.size; omega, s, p, l, cp, hcell, fun h => absurd h hc0, fun _ => ⟨h1, h2, h3, h4⟩⟩) (fun _ _ => by kernel_rfl))
  have HS := Lib.hid hs0
  clear h hg hb hb0 hs0 hK hA hN
  go_enter Tryz.func47, Tryz.ntmps47
  go_wp2_with fail
  rw [← hW0]
  clear hW0
  refine HCALL.out.mono ?_
  rintro e w3 ⟨c, a', w1, rfl, ⟨rfl, hc, hbw, hsz, s, p, l, cp, hcell, hok, hno⟩, hcau⟩
  have s0 := HS.out
  have hb3 : Below w.heap.size w w3 := below_caught hbw hcau (by omega) (by omega) (by omega)
  have hcell3 : w3.heap[w.heap.size + 2]? = some (.cells #[.bool s, .slice p l cp] 25 (0, 0)) := (hcau.same _ (by omega) (by omega) (by omega)).trans hcell
  have hok3 : c = 0 → s = negB n ∧ AtP (W0.heap.size + 2 ≤ ·) w3 (.slice p l cp) (Nl.limbs n.natAbs) := fun h0 => ⟨(hok h0).1, (hok h0).2.caught hcau (fun b hb => by omega)⟩
  have g0 := cell_of_row _ _ 0 _ _ (0, 0) hcell3
  have g1 := cell_of_row _ _ 1 _ _ (0, 0) hcell3
  have f0 := frozen_of_row _ _ 0 _ _ hcell3
  have f1 := frozen_of_row _ _ 1 _ _ hcell3
  have HR := Lib.hid (And.intro hc (And.intro hb3 (And.intro hcell3 (And.intro hok3 hno))))
  clear hc hbw hsz hcell hok hno hcau hb3 hcell3 hok3 HCALL s0
  go_wp2_with fail
  refine bodyPost_ret (v := .tuple #[.agg #[.bool s, .slice p l cp], .int .i64 c]) (results_int1 Tryz.results47 _ _ (w.heap.size + 2) _ _ rfl rfl (load_int (ibox_set (g := w.heap.size + 2) _ _ HR.out.2.2.1))) rfl ?_
  refine ⟨c, HR.out.1, ⟨_, rfl, fun h0 => ?_, fun h0 => ?_⟩, below_ibox HR.out.2.1 (g := w.heap.size + 2) (by omega) _ _⟩
  · obtain ⟨h1, h2⟩ := HR.out.2.2.2.1 h0
    rw [h1]
    exact AtI.mk (at_ibox (g := w.heap.size + 2) _ _ h2 HR.out.2.2.1).at
  · obtain ⟨rfl, rfl, rfl, rfl⟩ := HR.out.2.2.2.2 h0
    rfl
end Go.Proofs.YtkbghamkalidcaaGreat
