/-
  combined of package whole: an operation on the bits of two integers. Conditions: those that each theorem names.
-/
import Derived.Test.YtkbghamkalidcaaGreatPairIAll
import Derived.Test.YtkbghamkalidcaaGreatLawSumsAll
import Derived.Deep.Cut
namespace Go.Proofs.YtkbghamkalidcaaGreat
open Go.RowKit

theorem cel_al {D w' : World} (h : Below D.heap.size D w') (o : Obj) : Below D.heap.size D (w'.alloc o) := h.alloc h.size o
theorem cel_dr {B : Nat} {D w' : World} (h : Below B D w') : Below B D w'.drew := h.trans (below_drewN w' 1 B)
theorem cel_st {D w' : World} {p : Addr} (h : Below D.heap.size D w') (hp : D.heap.size ≤ p.block) (v : Value) : Below D.heap.size D (w'.setCell p v) := h.setCell hp v
theorem blk_get {W wd : World} (h : Below W.heap.size W wd) {g : Nat} {o : Obj} (r : W.heap[g]? = some o) : wd.heap[g]? = some o := (h.block _ (lt_of_block r)).trans r
/-- a pair of strips in a block -/
structure PairAt (wx : World) (gp ga gb n : Nat) (xa xb : List Nat) : Prop where
  row : wx.heap[gp]? = some (.cells #[.slice (some ⟨ga, 0, none⟩) n n, .slice (some ⟨gb, 0, none⟩) n n] 129 (0, 0))
  ra : Row wx ga xa
  rb : Row wx gb xb
theorem row_set2' {w : World} {y z : Nat} {o : Obj} (a b : Value) (hne : ¬ z = y) (row : w.heap[z]? = some o) : ((w.setCell ⟨y, 0, none⟩ a).setCell ⟨y, 1, none⟩ b).heap[z]? = some o := by
  rw [Below.heap_setCell _ ⟨y, 1, none⟩ _ _ hne, Below.heap_setCell _ ⟨y, 0, none⟩ _ _ hne]; exact row
theorem row_ne {w : World} {g y : Nat} {L : List Nat} (h : Row w g L) (row : w.heap[y]? = some (.cells #[.slice none 0 0, .slice none 0 0] 129 (0, 0))) : ¬ g = y := by
  intro e; subst e
  rw [Row] at h
  rw [h] at row
  simp only [Option.some.injEq, Obj.cells.injEq] at row
  exact absurd row.2.1 (by decide)
theorem pair_new {w : World} {ga gb n : Nat} {xa xb : List Nat} (ha : Row w ga xa) (hb : Row w gb xb) : PairAt (w.alloc (.cells #[.slice (some ⟨ga, 0, none⟩) n n, .slice (some ⟨gb, 0, none⟩) n n] 129)) w.heap.size ga gb n xa xb :=
  ⟨heap_alloc_new _ _, ha.below (below_one w _) ha.lt, hb.below (below_one w _) hb.lt⟩
theorem pair_old {w : World} {y ga gb n : Nat} {xa xb : List Nat} (ha : Row w ga xa) (hb : Row w gb xb) (row : w.heap[y]? = some (.cells #[.slice none 0 0, .slice none 0 0] 129 (0, 0))) : PairAt ((w.setCell ⟨y, 0, none⟩ (.slice (some ⟨ga, 0, none⟩) n n)).setCell ⟨y, 1, none⟩ (.slice (some ⟨gb, 0, none⟩) n n)) y ga gb n xa xb :=
  ⟨ibox_set _ _ row, row_set2' _ _ (row_ne ha row) ha, row_set2' _ _ (row_ne hb row) hb⟩

theorem zip_step {f : Nat → Nat → Nat} {Z xs ys : List Nat} {j v : Nat} (h : Z.take j = (List.zipWith f xs ys).take j) (hZ : j < Z.length) (hx : j < xs.length) (hy : j < ys.length) (hv : v = f (xs.getD j 0) (ys.getD j 0)) : (Z.set j v).take (j + 1) = (List.zipWith f xs ys).take (j + 1) := by
  have hl : j < (List.zipWith f xs ys).length := by rw [List.length_zipWith]; omega
  rw [List.take_add_one, List.take_add_one, List.take_set_of_le (Nat.le_refl j), h, List.getElem?_set_self hZ, List.getElem?_eq_getElem hl, List.getElem_zipWith, hv, Nl.getD_lt hx, Nl.getD_lt hy]
theorem row_at {w : World} {g z j : Nat} {v : Value} {L : List Nat} (h : Row w g L) (hne : ¬ g = z) : Row (w.setCell ⟨z, j, none⟩ v) g L := by
  rw [Row, Below.heap_setCell _ ⟨z, j, none⟩ _ _ hne]; exact h
set_option maxRecDepth 4000 in
set_option maxHeartbeats 8000000 in
theorem combined_any (va vb : Value) (a b : Int) (op : Nat) (n : Nat) (w : World) (ha : IsI w va a) (hb : IsI w vb b) (h1 : 1 ≤ op) (h3 : op ≤ 3) (hn : n = max (Nl.limbs a.natAbs).length (Nl.limbs b.natAbs).length + 1) (hl : n ≤ 100000) :
    Calls Tryz.prog 58 #[va, vb, .int .i64 op] w fun e w' => (∃ s p l c, e = .returned (.agg #[.bool s, .slice p l c]) ∧ IsI w' (.agg #[.bool s, .slice p l c]) (Nl.twos (4294967296 ^ n) (Nl.bop op (Nl.low a (4294967296 ^ n)) (Nl.low b (4294967296 ^ n))))) ∧ Below w.heap.size w w' := by
  obtain ⟨p0, c0, rfl, hu⟩ := ha.form
  obtain ⟨p1, c1, rfl, hv⟩ := hb.form
  obtain ⟨l0, hl0⟩ : ∃ l0, l0 = (Nl.limbs a.natAbs).length := ⟨_, rfl⟩
  obtain ⟨l1, hl1⟩ : ∃ l1, l1 = (Nl.limbs b.natAbs).length := ⟨_, rfl⟩
  rw [← hl0] at ha hn ⊢
  rw [← hl1] at hb hn ⊢
  obtain ⟨s0, hs0⟩ : ∃ s0, s0 = negB a := ⟨_, rfl⟩
  obtain ⟨s1, hs1⟩ : ∃ s1, s1 = negB b := ⟨_, rfl⟩
  rw [← hs0] at ha ⊢
  rw [← hs1] at hb ⊢
  obtain ⟨W, hW⟩ : ∃ W, W = ((w.alloc (.cells #[.bool s0, .slice p0 l0 c0] 78)).alloc (.cells #[.bool s1, .slice p1 l1 c1] 78)).alloc (.cells #[.bool false, .slice none 0 0] 78) := ⟨_, rfl⟩
  have h3' := three_mk w W _ _ _ _ _ _ hW
  have k00 := cell_of_row _ _ 0 _ _ (0, 0) h3'.a
  have k01 := cell_of_row _ _ 1 _ _ (0, 0) h3'.a
  have k10 := cell_of_row _ _ 0 _ _ (0, 0) h3'.b
  have k11 := cell_of_row _ _ 1 _ _ (0, 0) h3'.b
  simp only [List.getElem?_toArray, List.getElem?_cons_zero, List.getElem?_cons_succ] at k00 k01 k10 k11
  have H3 := Lib.hid h3'
  have hK0 : w.heap.size < W.heap.size := lt_of_block h3'.a
  have hK1 : w.heap.size + 1 < W.heap.size := lt_of_block h3'.b
  have hbW : Below w.heap.size w W := h3'.below
  have HA := Lib.hid (ha.below hbW)
  have HBB := Lib.hid (hb.below hbW)
  have z0 : ∀ w', Below W.heap.size W w' → w'.cell? ⟨w.heap.size, 0, none⟩ = some (.bool s0) := fun w' h => (h.cell (p := ⟨w.heap.size, 0, none⟩) hK0).trans k00
  have z1 : ∀ w', Below W.heap.size W w' → w'.cell? ⟨w.heap.size, 1, none⟩ = some (.slice p0 l0 c0) := fun w' h => (h.cell (p := ⟨w.heap.size, 1, none⟩) hK0).trans k01
  have z2 : ∀ w', Below W.heap.size W w' → w'.cell? ⟨w.heap.size + 1, 0, none⟩ = some (.bool s1) := fun w' h => (h.cell (p := ⟨w.heap.size + 1, 0, none⟩) hK1).trans k10
  have z3 : ∀ w', Below W.heap.size W w' → w'.cell? ⟨w.heap.size + 1, 1, none⟩ = some (.slice p1 l1 c1) := fun w' h => (h.cell (p := ⟨w.heap.size + 1, 1, none⟩) hK1).trans k11
  have hmax : max (l0 : Int) (l1 : Int) + 1 = (n : Int) := by omega
  have HN := Lib.hid hn
  have HN1 := Lib.hid (show 1 ≤ n ∧ n ≤ 1000000 from ⟨by omega, by omega⟩)
  clear ha hb hu hv h3' hl0 hl1 hs0 hs1 hbW hn
  go_enter Tryz.func58, Tryz.ntmps58
  go_upto_region 1 with fail
  rw [← hW]
  clear hW
  go_upto_region 2 with fail
  have hrr : Below W.heap.size W W := Below.refl _ _
  go_cut [8] from 21 (fun v8 wx => ∃ gp ga gb xa xb, v8 = .pointer (some ⟨gp, 0, none⟩) ∧ PairAt wx gp ga gb n xa xb ∧ W.heap.size ≤ gp ∧ xa.length = n ∧ xb.length = n ∧ Nl.Small xa ∧ Nl.Small xb ∧ Nl.val xa = Nl.low a (4294967296 ^ n) ∧ Nl.val xb = Nl.low b (4294967296 ^ n) ∧ Below W.heap.size W wx)
  case first =>
    go_region_held3 (fun w' => Below W.heap.size W w')
      (first
        | assumption
        | ((try (repeat (first | refine cel_al ?_ _ | refine cel_dr ?_ | refine cel_st ?_ (by first | exact Nat.le_refl _ | assumption | (dsimp only; omega) | (simp; omega)) _))); (first | assumption | exact Below.refl _ _)))
      (first
        | (go_at_call_of 119 (Value.agg #[.bool s0, .slice p0 l0 c0]); refine (lowest_any _ a n _ (HA.out.below (by ((try (repeat (first | refine cel_al ?_ _ | refine cel_dr ?_ | refine cel_st ?_ (by first | exact Nat.le_refl _ | assumption | (dsimp only; omega) | (simp; omega)) _))); (first | assumption | exact Below.refl _ _)))) HN1.out.1 HN1.out.2).mono ?_; rintro e wa ⟨ga, xa, rfl, hga, hra, hla, hsa, hva, hwr⟩; (try (have rA : wa.heap[W.heap.size]? = some (.cells #[.slice none 0 0, .slice none 0 0] 129 (0, 0)) := blk_get hwr (by exact heap_alloc_new _ _))); have belA := below_on (D := W) (by ((try (repeat (first | refine cel_al ?_ _ | refine cel_dr ?_ | refine cel_st ?_ (by first | exact Nat.le_refl _ | assumption | (dsimp only; omega) | (simp; omega)) _))); (first | assumption | exact Below.refl _ _))) hwr; have kA := belA.size; clear hwr)
        | (go_at_call_of 119 (Value.agg #[.bool s1, .slice p1 l1 c1]); refine (lowest_any _ b n _ (HBB.out.below (by ((try (repeat (first | refine cel_al ?_ _ | refine cel_dr ?_ | refine cel_st ?_ (by first | exact Nat.le_refl _ | assumption | (dsimp only; omega) | (simp; omega)) _))); (first | assumption | exact Below.refl _ _)))) HN1.out.1 HN1.out.2).mono ?_; rintro e wb ⟨gb, xb, rfl, hgb, hrb, hlb, hsb, hvb, hwr⟩; (try (have sA : wb.heap[W.heap.size]? = some (.cells #[.slice none 0 0, .slice none 0 0] 129 (0, 0)) := blk_get hwr (by first | exact rA | exact al_keep _ _ (lt_of_block rA) rA); have fA0 := frozen_of_row _ _ 0 _ _ sA; have fA1 := frozen_of_row _ _ 1 _ _ sA; have gA0 := cell_of_row _ _ 0 _ _ (0, 0) sA; have gA1 := cell_of_row _ _ 1 _ _ (0, 0) sA; simp only [List.getElem?_toArray, List.getElem?_cons_zero, List.getElem?_cons_succ] at gA0 gA1)); (try (have sC : wb.heap[wa.heap.size]? = some (.cells #[.slice none 0 0, .slice none 0 0] 129 (0, 0)) := blk_get hwr (by exact heap_alloc_new _ _); have fC0 := frozen_of_row _ _ 0 _ _ sC; have fC1 := frozen_of_row _ _ 1 _ _ sC; have gC0 := cell_of_row _ _ 0 _ _ (0, 0) sC; have gC1 := cell_of_row _ _ 1 _ _ (0, 0) sC; simp only [List.getElem?_toArray, List.getElem?_cons_zero, List.getElem?_cons_succ] at gC0 gC1)); have hab := below_on (D := wa) (by ((try (repeat (first | refine cel_al ?_ _ | refine cel_dr ?_ | refine cel_st ?_ (by first | exact Nat.le_refl _ | assumption | (dsimp only; omega) | (simp; omega)) _))); (first | assumption | exact Below.refl _ _))) hwr; have belB := below_on (D := W) (by ((try (repeat (first | refine cel_al ?_ _ | refine cel_dr ?_ | refine cel_st ?_ (by first | exact Nat.le_refl _ | assumption | (dsimp only; omega) | (simp; omega)) _))); (first | assumption | exact Below.refl _ _))) hwr; have kB := belB.size; have hra2 := hra.below hab hra.lt; clear hwr hab))
    all_goals (go_wp2_with fail; go_meet; case rel => refine ⟨_, ga, gb, xa, xb, rfl, (by first | exact pair_new hra2 hrb | exact pair_old hra2 hrb (by assumption)), (by first | exact Nat.le_refl _ | assumption), hla, hlb, hsa, hsb, hva, hvb, (by ((try (repeat (first | refine cel_al ?_ _ | refine cel_dr ?_ | refine cel_st ?_ (by first | exact Nat.le_refl _ | assumption | (dsimp only; omega) | (simp; omega)) _))); (first | assumption | exact Below.refl _ _)))⟩)
  case rest =>
    obtain ⟨gp, ga, gb, xa, xb, rfl, hpair, hgp, hla, hlb, hsa, hsb, hva, hvb, hbc⟩ := hcut
    have HP := Lib.hid hpair
    have HX := Lib.hid (show W.heap.size ≤ gp ∧ xa.length = n ∧ xb.length = n ∧ Nl.Small xa ∧ Nl.Small xb ∧ Nl.val xa = Nl.low a (4294967296 ^ n) ∧ Nl.val xb = Nl.low b (4294967296 ^ n) ∧ Below W.heap.size W wc from ⟨hgp, hla, hlb, hsa, hsb, hva, hvb, hbc⟩)
    have q0 := cell_of_row _ _ 0 _ _ (0, 0) hpair.row
    have q1 := cell_of_row _ _ 1 _ _ (0, 0) hpair.row
    simp only [List.getElem?_toArray, List.getElem?_cons_zero, List.getElem?_cons_succ] at q0 q1
    clear hpair hgp hla hlb hsa hsb hva hvb hbc z0 z1 z2 z3 hrr k00 k01 k10 k11
    have hops : op = 1 ∨ op = 2 ∨ op = 3 := by omega
    rcases hops with rfl | rfl | rfl
    · as_aux_lemma =>
        go_upto_region 5 with fail
        obtain ⟨G, hG⟩ : ∃ G, G = wc.alloc (.cells #[.nilFunc, .func (.func 121) #[Value.agg #[.slice (some ⟨ga, 0, none⟩) n n, .slice (some ⟨gb, 0, none⟩) n n]] #[], .func (.func 122) #[Value.agg #[.slice (some ⟨ga, 0, none⟩) n n, .slice (some ⟨gb, 0, none⟩) n n]] #[], .func (.func 123) #[Value.agg #[.slice (some ⟨ga, 0, none⟩) n n, .slice (some ⟨gb, 0, none⟩) n n]] #[]] 131) := ⟨_, rfl⟩
        rw [← hG]
        have hbG : Below wc.heap.size wc G := by rw [hG]; exact below_one _ _
        have hmk := make_words 126 Tryz.underlying126 G n n (by omega) (by omega)
        have HG := Lib.hid hbG
        clear hG hbG q0 q1
        go_wp2_with fail
        obtain ⟨R, hR⟩ : ∃ R, R = G.alloc (.cells (vals (Nl.zeros n)).toArray 80) := ⟨_, rfl⟩
        rw [← hR]
        have hrow : Row R G.heap.size (Nl.zeros n) := by rw [hR]; exact row_new G _
        have hbR : Below G.heap.size G R := by rw [hR]; exact below_one _ _
        have hWR : Below W.heap.size W R := HX.out.2.2.2.2.2.2.2.trans ((HG.out.trans (hbR.mono HG.out.size)).mono HX.out.2.2.2.2.2.2.2.size)
        have hcR : Below wc.heap.size wc R := HG.out.trans (hbR.mono HG.out.size)
        have HR := Lib.hid (show Row R G.heap.size (Nl.zeros n) ∧ Row R ga xa ∧ Row R gb xb ∧ Below W.heap.size W R ∧ W.heap.size ≤ G.heap.size ∧ ¬ ga = G.heap.size ∧ ¬ gb = G.heap.size from
          ⟨hrow, HP.out.ra.below hcR HP.out.ra.lt, HP.out.rb.below hcR HP.out.rb.lt, hWR, Nat.le_trans HX.out.2.2.2.2.2.2.2.size HG.out.size, Nat.ne_of_lt (Nat.lt_of_lt_of_le HP.out.ra.lt HG.out.size), Nat.ne_of_lt (Nat.lt_of_lt_of_le HP.out.rb.lt HG.out.size)⟩)
        clear hR hrow hbR hWR hcR hmk
        go_loopw [42] (fun i wr => ∃ (j : Nat) (Z : List Nat), j ≤ n ∧ i = .int .i64 j ∧ Hid (Row wr G.heap.size Z ∧ Row wr ga xa ∧ Row wr gb xb ∧ Below W.heap.size W wr ∧ Z.length = n ∧ Nl.Small Z ∧ Z.take j = (List.zipWith (Nl.bop 1) xa xb).take j)) (fun i _ => (n - (intOf i).toNat))
        case atStart => exact ⟨0, _, Nat.zero_le _, rfl, ⟨HR.out.1, HR.out.2.1, HR.out.2.2.1, HR.out.2.2.2.1, Nl.zeros_length n, Nl.small_replicate n, by rw [List.take_zero, List.take_zero]⟩⟩
        case round =>
          obtain ⟨j, Z, hj, rfl, hinv⟩ := hrel
          by_cases hlt : j < n
          · obtain ⟨x, hx⟩ : ∃ x, x = xa.getD j 0 := ⟨_, rfl⟩
            obtain ⟨y, hy⟩ : ∃ y, y = xb.getD j 0 := ⟨_, rfl⟩
            have hx2 : x < 4294967296 := by rw [hx]; exact HX.out.2.2.2.1.getD j
            have hy2 : y < 4294967296 := by rw [hy]; exact HX.out.2.2.2.2.1.getD j
            have cx := hinv.out.2.1.cell (i := j) (by rw [HX.out.2.1]; exact hlt)
            have cy := hinv.out.2.2.1.cell (i := j) (by rw [HX.out.2.2.1]; exact hlt)
            rw [← hx] at cx
            rw [← hy] at cy
            have HC := Lib.hid (pair_and ga gb n j x y wr hlt cx cy hinv.out.2.1.lt hinv.out.2.2.1.lt hx2 hy2 (by omega))
            have HXY := Lib.hid (And.intro hx (And.intro hy (And.intro hx2 hy2)))
            clear hx hy hx2 hy2 cx cy
            go_wp2_with fail
            refine HC.out.mono ?_
            rintro e w2 ⟨rfl, hb2⟩
            obtain ⟨v, hv⟩ : ∃ v, v = Nl.bop 1 x y := ⟨_, rfl⟩
            rw [← hv]
            have H2 := Lib.hid (And.intro hb2 hv)
            have rz := hinv.out.1.below hb2 hinv.out.1.lt
            have cz := rz.cell (i := j) (by rw [hinv.out.2.2.2.2.1]; exact hlt)
            have fz := rz.free j
            have RZ := Lib.hid rz
            clear hb2 hv rz HC
            go_wp2_with fail
            go_roundw
            case rel =>
              have hvl : v < 4294967296 := by rw [H2.out.2]; exact Nl.bop_lt (n := 32) 1 HXY.out.2.2.1 HXY.out.2.2.2
              refine ⟨_, _, _, _, _, _, _, _, _, _, _, ?_, rfl⟩
              refine ⟨j + 1, Z.set j v, hlt, by first | rfl | go_num, ⟨RZ.out.set j v, row_at (hinv.out.2.1.below H2.out.1 hinv.out.2.1.lt) HR.out.2.2.2.2.2.1, row_at (hinv.out.2.2.1.below H2.out.1 hinv.out.2.2.1.lt) HR.out.2.2.2.2.2.2, (hinv.out.2.2.2.1.trans (H2.out.1.mono hinv.out.2.2.2.1.size)).setCell (p := ⟨G.heap.size, j, none⟩) HR.out.2.2.2.2.1 _, by rw [List.length_set]; exact hinv.out.2.2.2.2.1, hinv.out.2.2.2.2.2.1.set j hvl, ?_⟩⟩
              exact zip_step hinv.out.2.2.2.2.2.2 (by rw [hinv.out.2.2.2.2.1]; exact hlt) (by rw [HX.out.2.1]; exact hlt) (by rw [HX.out.2.2.1]; exact hlt) (by rw [H2.out.2, HXY.out.1, HXY.out.2.1])
            case measure => simp [intOf] <;> omega
          · obtain rfl : j = n := by omega
            obtain ⟨q, hq⟩ : ∃ q, q = max l0 l1 := ⟨_, rfl⟩
            have hnq : j = q + 1 := by rw [hq]; exact HN.out
            have hZ : Z = List.zipWith (Nl.bop 1) xa xb := by
              have h := hinv.out.2.2.2.2.2.2
              rwa [List.take_of_length_le (Nat.le_of_eq hinv.out.2.2.2.2.1), List.take_of_length_le (by rw [List.length_zipWith, HX.out.2.1, HX.out.2.2.1]; omega)] at h
            have hval : Nl.val Z = Nl.bop 1 (Nl.low a (4294967296 ^ j)) (Nl.low b (4294967296 ^ j)) := by
              rw [hZ, Nl.bop_take 1 HX.out.2.2.2.1 HX.out.2.2.2.2.1 (by rw [HX.out.2.1, HX.out.2.2.1]), HX.out.2.2.2.2.2.1, HX.out.2.2.2.2.2.2.1]
            have hS := strip_integer G.heap.size q Z wr (by rw [hinv.out.2.2.2.2.1, hnq]) hinv.out.1 hinv.out.2.2.2.2.2.1 (by omega) W.heap.size W hinv.out.2.2.2.1 HR.out.2.2.2.2.1 hinv.out.2.2.2.1.size
            rw [← hnq] at hS
            rw [hval] at hS
            have HS := Lib.hid hS
            clear hS hval hZ hnq hq
            go_wp2_with fail
            refine HS.out.mono ?_
            rintro e w5 ⟨⟨s5, p5, l5, c5, rfl, hi5⟩, hb5⟩
            have BQ := (hb5.block _ (lt_of_block H3.out.r)).trans H3.out.r
            have f0 := frozen_of_row _ _ 0 _ _ BQ
            have f1 := frozen_of_row _ _ 1 _ _ BQ
            have g0 := cell_of_row _ _ 0 _ _ (0, 0) BQ
            have g1 := cell_of_row _ _ 1 _ _ (0, 0) BQ
            have H5 := Lib.hid (And.intro BQ (And.intro hi5 hb5))
            clear BQ hi5 hb5 HS
            go_wp2_with fail
            refine bodyPost_ret (v := .agg #[.bool s5, .slice p5 l5 c5]) (results_cell_row Tryz.results58 _ _ (w.heap.size + 2) 78 _ (0, 0) _ rfl (ibox_set (g := w.heap.size + 2) _ _ H5.out.1) Tryz.underlying78 rfl (by kernel_rfl)) rfl ?_
            refine ⟨⟨_, _, _, _, rfl, ?_⟩, below_ibox (H3.out.below.trans (H5.out.2.2.mono H3.out.below.size)) (g := w.heap.size + 2) (by omega) _ _⟩
            obtain ⟨v5, e5, hv5⟩ := H5.out.2.1
            exact ⟨v5, e5, at_ibox (g := w.heap.size + 2) _ _ hv5 H5.out.1⟩
    · as_aux_lemma =>
        go_upto_region 5 with fail
        obtain ⟨G, hG⟩ : ∃ G, G = wc.alloc (.cells #[.nilFunc, .func (.func 121) #[Value.agg #[.slice (some ⟨ga, 0, none⟩) n n, .slice (some ⟨gb, 0, none⟩) n n]] #[], .func (.func 122) #[Value.agg #[.slice (some ⟨ga, 0, none⟩) n n, .slice (some ⟨gb, 0, none⟩) n n]] #[], .func (.func 123) #[Value.agg #[.slice (some ⟨ga, 0, none⟩) n n, .slice (some ⟨gb, 0, none⟩) n n]] #[]] 131) := ⟨_, rfl⟩
        rw [← hG]
        have hbG : Below wc.heap.size wc G := by rw [hG]; exact below_one _ _
        have hmk := make_words 126 Tryz.underlying126 G n n (by omega) (by omega)
        have HG := Lib.hid hbG
        clear hG hbG q0 q1
        go_wp2_with fail
        obtain ⟨R, hR⟩ : ∃ R, R = G.alloc (.cells (vals (Nl.zeros n)).toArray 80) := ⟨_, rfl⟩
        rw [← hR]
        have hrow : Row R G.heap.size (Nl.zeros n) := by rw [hR]; exact row_new G _
        have hbR : Below G.heap.size G R := by rw [hR]; exact below_one _ _
        have hWR : Below W.heap.size W R := HX.out.2.2.2.2.2.2.2.trans ((HG.out.trans (hbR.mono HG.out.size)).mono HX.out.2.2.2.2.2.2.2.size)
        have hcR : Below wc.heap.size wc R := HG.out.trans (hbR.mono HG.out.size)
        have HR := Lib.hid (show Row R G.heap.size (Nl.zeros n) ∧ Row R ga xa ∧ Row R gb xb ∧ Below W.heap.size W R ∧ W.heap.size ≤ G.heap.size ∧ ¬ ga = G.heap.size ∧ ¬ gb = G.heap.size from
          ⟨hrow, HP.out.ra.below hcR HP.out.ra.lt, HP.out.rb.below hcR HP.out.rb.lt, hWR, Nat.le_trans HX.out.2.2.2.2.2.2.2.size HG.out.size, Nat.ne_of_lt (Nat.lt_of_lt_of_le HP.out.ra.lt HG.out.size), Nat.ne_of_lt (Nat.lt_of_lt_of_le HP.out.rb.lt HG.out.size)⟩)
        clear hR hrow hbR hWR hcR hmk
        go_loopw [42] (fun i wr => ∃ (j : Nat) (Z : List Nat), j ≤ n ∧ i = .int .i64 j ∧ Hid (Row wr G.heap.size Z ∧ Row wr ga xa ∧ Row wr gb xb ∧ Below W.heap.size W wr ∧ Z.length = n ∧ Nl.Small Z ∧ Z.take j = (List.zipWith (Nl.bop 2) xa xb).take j)) (fun i _ => (n - (intOf i).toNat))
        case atStart => exact ⟨0, _, Nat.zero_le _, rfl, ⟨HR.out.1, HR.out.2.1, HR.out.2.2.1, HR.out.2.2.2.1, Nl.zeros_length n, Nl.small_replicate n, by rw [List.take_zero, List.take_zero]⟩⟩
        case round =>
          obtain ⟨j, Z, hj, rfl, hinv⟩ := hrel
          by_cases hlt : j < n
          · obtain ⟨x, hx⟩ : ∃ x, x = xa.getD j 0 := ⟨_, rfl⟩
            obtain ⟨y, hy⟩ : ∃ y, y = xb.getD j 0 := ⟨_, rfl⟩
            have hx2 : x < 4294967296 := by rw [hx]; exact HX.out.2.2.2.1.getD j
            have hy2 : y < 4294967296 := by rw [hy]; exact HX.out.2.2.2.2.1.getD j
            have cx := hinv.out.2.1.cell (i := j) (by rw [HX.out.2.1]; exact hlt)
            have cy := hinv.out.2.2.1.cell (i := j) (by rw [HX.out.2.2.1]; exact hlt)
            rw [← hx] at cx
            rw [← hy] at cy
            have HC := Lib.hid (pair_or ga gb n j x y wr hlt cx cy hinv.out.2.1.lt hinv.out.2.2.1.lt hx2 hy2 (by omega))
            have HXY := Lib.hid (And.intro hx (And.intro hy (And.intro hx2 hy2)))
            clear hx hy hx2 hy2 cx cy
            go_wp2_with fail
            refine HC.out.mono ?_
            rintro e w2 ⟨rfl, hb2⟩
            obtain ⟨v, hv⟩ : ∃ v, v = Nl.bop 2 x y := ⟨_, rfl⟩
            rw [← hv]
            have H2 := Lib.hid (And.intro hb2 hv)
            have rz := hinv.out.1.below hb2 hinv.out.1.lt
            have cz := rz.cell (i := j) (by rw [hinv.out.2.2.2.2.1]; exact hlt)
            have fz := rz.free j
            have RZ := Lib.hid rz
            clear hb2 hv rz HC
            go_wp2_with fail
            go_roundw
            case rel =>
              have hvl : v < 4294967296 := by rw [H2.out.2]; exact Nl.bop_lt (n := 32) 2 HXY.out.2.2.1 HXY.out.2.2.2
              refine ⟨_, _, _, _, _, _, _, _, _, _, _, ?_, rfl⟩
              refine ⟨j + 1, Z.set j v, hlt, by first | rfl | go_num, ⟨RZ.out.set j v, row_at (hinv.out.2.1.below H2.out.1 hinv.out.2.1.lt) HR.out.2.2.2.2.2.1, row_at (hinv.out.2.2.1.below H2.out.1 hinv.out.2.2.1.lt) HR.out.2.2.2.2.2.2, (hinv.out.2.2.2.1.trans (H2.out.1.mono hinv.out.2.2.2.1.size)).setCell (p := ⟨G.heap.size, j, none⟩) HR.out.2.2.2.2.1 _, by rw [List.length_set]; exact hinv.out.2.2.2.2.1, hinv.out.2.2.2.2.2.1.set j hvl, ?_⟩⟩
              exact zip_step hinv.out.2.2.2.2.2.2 (by rw [hinv.out.2.2.2.2.1]; exact hlt) (by rw [HX.out.2.1]; exact hlt) (by rw [HX.out.2.2.1]; exact hlt) (by rw [H2.out.2, HXY.out.1, HXY.out.2.1])
            case measure => simp [intOf] <;> omega
          · obtain rfl : j = n := by omega
            obtain ⟨q, hq⟩ : ∃ q, q = max l0 l1 := ⟨_, rfl⟩
            have hnq : j = q + 1 := by rw [hq]; exact HN.out
            have hZ : Z = List.zipWith (Nl.bop 2) xa xb := by
              have h := hinv.out.2.2.2.2.2.2
              rwa [List.take_of_length_le (Nat.le_of_eq hinv.out.2.2.2.2.1), List.take_of_length_le (by rw [List.length_zipWith, HX.out.2.1, HX.out.2.2.1]; omega)] at h
            have hval : Nl.val Z = Nl.bop 2 (Nl.low a (4294967296 ^ j)) (Nl.low b (4294967296 ^ j)) := by
              rw [hZ, Nl.bop_take 2 HX.out.2.2.2.1 HX.out.2.2.2.2.1 (by rw [HX.out.2.1, HX.out.2.2.1]), HX.out.2.2.2.2.2.1, HX.out.2.2.2.2.2.2.1]
            have hS := strip_integer G.heap.size q Z wr (by rw [hinv.out.2.2.2.2.1, hnq]) hinv.out.1 hinv.out.2.2.2.2.2.1 (by omega) W.heap.size W hinv.out.2.2.2.1 HR.out.2.2.2.2.1 hinv.out.2.2.2.1.size
            rw [← hnq] at hS
            rw [hval] at hS
            have HS := Lib.hid hS
            clear hS hval hZ hnq hq
            go_wp2_with fail
            refine HS.out.mono ?_
            rintro e w5 ⟨⟨s5, p5, l5, c5, rfl, hi5⟩, hb5⟩
            have BQ := (hb5.block _ (lt_of_block H3.out.r)).trans H3.out.r
            have f0 := frozen_of_row _ _ 0 _ _ BQ
            have f1 := frozen_of_row _ _ 1 _ _ BQ
            have g0 := cell_of_row _ _ 0 _ _ (0, 0) BQ
            have g1 := cell_of_row _ _ 1 _ _ (0, 0) BQ
            have H5 := Lib.hid (And.intro BQ (And.intro hi5 hb5))
            clear BQ hi5 hb5 HS
            go_wp2_with fail
            refine bodyPost_ret (v := .agg #[.bool s5, .slice p5 l5 c5]) (results_cell_row Tryz.results58 _ _ (w.heap.size + 2) 78 _ (0, 0) _ rfl (ibox_set (g := w.heap.size + 2) _ _ H5.out.1) Tryz.underlying78 rfl (by kernel_rfl)) rfl ?_
            refine ⟨⟨_, _, _, _, rfl, ?_⟩, below_ibox (H3.out.below.trans (H5.out.2.2.mono H3.out.below.size)) (g := w.heap.size + 2) (by omega) _ _⟩
            obtain ⟨v5, e5, hv5⟩ := H5.out.2.1
            exact ⟨v5, e5, at_ibox (g := w.heap.size + 2) _ _ hv5 H5.out.1⟩
    · as_aux_lemma =>
        go_upto_region 5 with fail
        obtain ⟨G, hG⟩ : ∃ G, G = wc.alloc (.cells #[.nilFunc, .func (.func 121) #[Value.agg #[.slice (some ⟨ga, 0, none⟩) n n, .slice (some ⟨gb, 0, none⟩) n n]] #[], .func (.func 122) #[Value.agg #[.slice (some ⟨ga, 0, none⟩) n n, .slice (some ⟨gb, 0, none⟩) n n]] #[], .func (.func 123) #[Value.agg #[.slice (some ⟨ga, 0, none⟩) n n, .slice (some ⟨gb, 0, none⟩) n n]] #[]] 131) := ⟨_, rfl⟩
        rw [← hG]
        have hbG : Below wc.heap.size wc G := by rw [hG]; exact below_one _ _
        have hmk := make_words 126 Tryz.underlying126 G n n (by omega) (by omega)
        have HG := Lib.hid hbG
        clear hG hbG q0 q1
        go_wp2_with fail
        obtain ⟨R, hR⟩ : ∃ R, R = G.alloc (.cells (vals (Nl.zeros n)).toArray 80) := ⟨_, rfl⟩
        rw [← hR]
        have hrow : Row R G.heap.size (Nl.zeros n) := by rw [hR]; exact row_new G _
        have hbR : Below G.heap.size G R := by rw [hR]; exact below_one _ _
        have hWR : Below W.heap.size W R := HX.out.2.2.2.2.2.2.2.trans ((HG.out.trans (hbR.mono HG.out.size)).mono HX.out.2.2.2.2.2.2.2.size)
        have hcR : Below wc.heap.size wc R := HG.out.trans (hbR.mono HG.out.size)
        have HR := Lib.hid (show Row R G.heap.size (Nl.zeros n) ∧ Row R ga xa ∧ Row R gb xb ∧ Below W.heap.size W R ∧ W.heap.size ≤ G.heap.size ∧ ¬ ga = G.heap.size ∧ ¬ gb = G.heap.size from
          ⟨hrow, HP.out.ra.below hcR HP.out.ra.lt, HP.out.rb.below hcR HP.out.rb.lt, hWR, Nat.le_trans HX.out.2.2.2.2.2.2.2.size HG.out.size, Nat.ne_of_lt (Nat.lt_of_lt_of_le HP.out.ra.lt HG.out.size), Nat.ne_of_lt (Nat.lt_of_lt_of_le HP.out.rb.lt HG.out.size)⟩)
        clear hR hrow hbR hWR hcR hmk
        go_loopw [42] (fun i wr => ∃ (j : Nat) (Z : List Nat), j ≤ n ∧ i = .int .i64 j ∧ Hid (Row wr G.heap.size Z ∧ Row wr ga xa ∧ Row wr gb xb ∧ Below W.heap.size W wr ∧ Z.length = n ∧ Nl.Small Z ∧ Z.take j = (List.zipWith (Nl.bop 3) xa xb).take j)) (fun i _ => (n - (intOf i).toNat))
        case atStart => exact ⟨0, _, Nat.zero_le _, rfl, ⟨HR.out.1, HR.out.2.1, HR.out.2.2.1, HR.out.2.2.2.1, Nl.zeros_length n, Nl.small_replicate n, by rw [List.take_zero, List.take_zero]⟩⟩
        case round =>
          obtain ⟨j, Z, hj, rfl, hinv⟩ := hrel
          by_cases hlt : j < n
          · obtain ⟨x, hx⟩ : ∃ x, x = xa.getD j 0 := ⟨_, rfl⟩
            obtain ⟨y, hy⟩ : ∃ y, y = xb.getD j 0 := ⟨_, rfl⟩
            have hx2 : x < 4294967296 := by rw [hx]; exact HX.out.2.2.2.1.getD j
            have hy2 : y < 4294967296 := by rw [hy]; exact HX.out.2.2.2.2.1.getD j
            have cx := hinv.out.2.1.cell (i := j) (by rw [HX.out.2.1]; exact hlt)
            have cy := hinv.out.2.2.1.cell (i := j) (by rw [HX.out.2.2.1]; exact hlt)
            rw [← hx] at cx
            rw [← hy] at cy
            have HC := Lib.hid (pair_xor ga gb n j x y wr hlt cx cy hinv.out.2.1.lt hinv.out.2.2.1.lt hx2 hy2 (by omega))
            have HXY := Lib.hid (And.intro hx (And.intro hy (And.intro hx2 hy2)))
            clear hx hy hx2 hy2 cx cy
            go_wp2_with fail
            refine HC.out.mono ?_
            rintro e w2 ⟨rfl, hb2⟩
            obtain ⟨v, hv⟩ : ∃ v, v = Nl.bop 3 x y := ⟨_, rfl⟩
            rw [← hv]
            have H2 := Lib.hid (And.intro hb2 hv)
            have rz := hinv.out.1.below hb2 hinv.out.1.lt
            have cz := rz.cell (i := j) (by rw [hinv.out.2.2.2.2.1]; exact hlt)
            have fz := rz.free j
            have RZ := Lib.hid rz
            clear hb2 hv rz HC
            go_wp2_with fail
            go_roundw
            case rel =>
              have hvl : v < 4294967296 := by rw [H2.out.2]; exact Nl.bop_lt (n := 32) 3 HXY.out.2.2.1 HXY.out.2.2.2
              refine ⟨_, _, _, _, _, _, _, _, _, _, _, ?_, rfl⟩
              refine ⟨j + 1, Z.set j v, hlt, by first | rfl | go_num, ⟨RZ.out.set j v, row_at (hinv.out.2.1.below H2.out.1 hinv.out.2.1.lt) HR.out.2.2.2.2.2.1, row_at (hinv.out.2.2.1.below H2.out.1 hinv.out.2.2.1.lt) HR.out.2.2.2.2.2.2, (hinv.out.2.2.2.1.trans (H2.out.1.mono hinv.out.2.2.2.1.size)).setCell (p := ⟨G.heap.size, j, none⟩) HR.out.2.2.2.2.1 _, by rw [List.length_set]; exact hinv.out.2.2.2.2.1, hinv.out.2.2.2.2.2.1.set j hvl, ?_⟩⟩
              exact zip_step hinv.out.2.2.2.2.2.2 (by rw [hinv.out.2.2.2.2.1]; exact hlt) (by rw [HX.out.2.1]; exact hlt) (by rw [HX.out.2.2.1]; exact hlt) (by rw [H2.out.2, HXY.out.1, HXY.out.2.1])
            case measure => simp [intOf] <;> omega
          · obtain rfl : j = n := by omega
            obtain ⟨q, hq⟩ : ∃ q, q = max l0 l1 := ⟨_, rfl⟩
            have hnq : j = q + 1 := by rw [hq]; exact HN.out
            have hZ : Z = List.zipWith (Nl.bop 3) xa xb := by
              have h := hinv.out.2.2.2.2.2.2
              rwa [List.take_of_length_le (Nat.le_of_eq hinv.out.2.2.2.2.1), List.take_of_length_le (by rw [List.length_zipWith, HX.out.2.1, HX.out.2.2.1]; omega)] at h
            have hval : Nl.val Z = Nl.bop 3 (Nl.low a (4294967296 ^ j)) (Nl.low b (4294967296 ^ j)) := by
              rw [hZ, Nl.bop_take 3 HX.out.2.2.2.1 HX.out.2.2.2.2.1 (by rw [HX.out.2.1, HX.out.2.2.1]), HX.out.2.2.2.2.2.1, HX.out.2.2.2.2.2.2.1]
            have hS := strip_integer G.heap.size q Z wr (by rw [hinv.out.2.2.2.2.1, hnq]) hinv.out.1 hinv.out.2.2.2.2.2.1 (by omega) W.heap.size W hinv.out.2.2.2.1 HR.out.2.2.2.2.1 hinv.out.2.2.2.1.size
            rw [← hnq] at hS
            rw [hval] at hS
            have HS := Lib.hid hS
            clear hS hval hZ hnq hq
            go_wp2_with fail
            refine HS.out.mono ?_
            rintro e w5 ⟨⟨s5, p5, l5, c5, rfl, hi5⟩, hb5⟩
            have BQ := (hb5.block _ (lt_of_block H3.out.r)).trans H3.out.r
            have f0 := frozen_of_row _ _ 0 _ _ BQ
            have f1 := frozen_of_row _ _ 1 _ _ BQ
            have g0 := cell_of_row _ _ 0 _ _ (0, 0) BQ
            have g1 := cell_of_row _ _ 1 _ _ (0, 0) BQ
            have H5 := Lib.hid (And.intro BQ (And.intro hi5 hb5))
            clear BQ hi5 hb5 HS
            go_wp2_with fail
            refine bodyPost_ret (v := .agg #[.bool s5, .slice p5 l5 c5]) (results_cell_row Tryz.results58 _ _ (w.heap.size + 2) 78 _ (0, 0) _ rfl (ibox_set (g := w.heap.size + 2) _ _ H5.out.1) Tryz.underlying78 rfl (by kernel_rfl)) rfl ?_
            refine ⟨⟨_, _, _, _, rfl, ?_⟩, below_ibox (H3.out.below.trans (H5.out.2.2.mono H3.out.below.size)) (g := w.heap.size + 2) (by omega) _ _⟩
            obtain ⟨v5, e5, hv5⟩ := H5.out.2.1
            exact ⟨v5, e5, at_ibox (g := w.heap.size + 2) _ _ hv5 H5.out.1⟩
end Go.Proofs.YtkbghamkalidcaaGreat
