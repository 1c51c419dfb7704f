/-
  What commonDivisor does. Conditions: those that each theorem names.
-/
import Derived.Test.YtfaledeidjmooaaGreatCombine
import Derived.Test.YtfaledeidjmooaaGreatBlocks
namespace Go.Proofs.YtfaledeidjmooaaGreat
open Go.RowKit

theorem two_words {m : Nat} (h : (Nl.limbs m).length ≤ 2) : m < 18446744073709551616 := by
  have h1 := Nl.lt_limbs m
  have h2 := Nl.pow_le h
  have h3 : (4294967296 : Nat) ^ 2 = 18446744073709551616 := by decide
  omega

set_option maxRecDepth 10000 in
set_option maxHeartbeats 4000000 in
/-- the loop of commonDivisor, and what follows: in all that comes after the two numbers have been put in order -/
theorem common_start (va vb : Value) (m n : Nat) (w : World) (ha : IsN w va m) (hb : IsN w vb n) (hla : (Nl.limbs m).length ≤ 1024) (hlb : (Nl.limbs n).length ≤ 1024) :
    Calls Tryz.prog 74 #[va, vb] w fun e w' => (∃ v, e = .returned v ∧ IsN w' v (Nat.gcd m n)) ∧ Below w.heap.size w w' := by
  have HC := Lib.hid (compare_any va vb m n w ha hb)
  have HA := Lib.hid ha
  have HB := Lib.hid hb
  obtain ⟨pa, ca, rfl, -⟩ := ha.form
  obtain ⟨pb, cb, rfl, -⟩ := hb.form
  obtain ⟨c, hc⟩ : ∃ c, cmpI (m : Int) (n : Int) = c := ⟨_, rfl⟩
  have hcc : (c < 0 → m < n) ∧ (¬ c < 0 → n ≤ m) := by
    rw [← hc]
    rcases Nat.lt_trichotomy m n with h | h | h
    · rw [cmpI_lt h]; exact ⟨fun _ => h, fun h2 => absurd (by decide) h2⟩
    · rw [h, cmpI_eq]; exact ⟨fun h2 => absurd h2 (by decide), fun _ => Nat.le_refl _⟩
    · rw [cmpI_gt h]; exact ⟨fun h2 => absurd h2 (by decide), fun _ => by omega⟩
  rw [hc] at HC
  have HCC := Lib.hid hcc
  clear ha hb hc hcc
  go_enter Tryz.func74, Tryz.ntmps74
  go_upto_if 11 with (go_at_call 62; refine HC.out.mono ?_; rintro e w' ⟨rfl, j, rfl⟩)
  obtain ⟨W, hW⟩ : ∃ W, W = w.drewN j := ⟨_, rfl⟩
  rw [← hW]
  have HA1 := Lib.hid (show IsN W (.slice pa (Nl.limbs m).length ca) m by rw [hW]; exact HA.out.below (below_drewN ..))
  have HB1 := Lib.hid (show IsN W (.slice pb (Nl.limbs n).length cb) n by rw [hW]; exact HB.out.below (below_drewN ..))
  have B1 := Lib.hid (show Below w.heap.size w W by rw [hW]; exact below_drewN ..)
  clear HC HA HB hW
  go_cut [0, 1] from 8 (fun u v wx => ∃ A B : Nat, Hid (IsN wx u A) ∧ Hid (IsN wx v B) ∧ B ≤ A ∧ (Nl.limbs A).length ≤ 1024 ∧ Hid (Nat.gcd A B = Nat.gcd m n) ∧ Hid (Below w.heap.size w wx))
  case first =>
    by_cases hc0 : c < 0
    · go_wp2_with fail
      go_meet
      case rel => exact ⟨n, m, HB1.out, HA1.out, by have := HCC.out.1 hc0; omega, hlb, Nat.gcd_comm n m, B1.out⟩
    · go_wp2_with fail
      go_meet
      case rel => exact ⟨m, n, HA1.out, HB1.out, HCC.out.2 hc0, hla, rfl, B1.out⟩
  case rest =>
    obtain ⟨A0, B0, hA0, hB0, hle0, hlA0, hg0, hbl0⟩ := hcut
    clear HA1 HB1 B1 HCC hla hlb W
    go_wp2_with fail
    go_loopw [0, 1] (fun u v wr => ∃ A B : Nat, Hid (IsN wr u A) ∧ Hid (IsN wr v B) ∧ B ≤ A ∧ (Nl.limbs A).length ≤ 1024 ∧ Hid (Nat.gcd A B = Nat.gcd m n) ∧ Hid (Below w.heap.size w wr)) (fun _ v wr => numAt wr v)
    case atStart => exact ⟨A0, B0, hA0, hB0, hle0, hlA0, hg0, hbl0⟩
    case round =>
      obtain ⟨A, B, hA, hB, hle, hlA, hg, hbl⟩ := hrel
      have hlB : (Nl.limbs B).length ≤ 1024 := Nat.le_trans (Nl.limbs_mono hle) hlA
      have eA := hA.out
      have eB := hB.out
      obtain ⟨pA, cA, rfl, -⟩ := eA.form
      obtain ⟨pB, cB, rfl, -⟩ := eB.form
      obtain ⟨LA, hLA⟩ : ∃ x, (Nl.limbs A).length = x := ⟨_, rfl⟩
      obtain ⟨LB, hLB⟩ : ∃ x, (Nl.limbs B).length = x := ⟨_, rfl⟩
      have hmu := numAt_of hB.out
      rw [hLA] at hA hlA eA ⊢
      rw [hLB] at hB hlB hmu eB ⊢
      have HL := Lib.hid (And.intro hLA hLB)
      have HMU := Lib.hid hmu
      clear hmu hLA hLB eA eB
      by_cases h2 : 2 < LA
      · by_cases h0 : LB = 0
        · have t1 : decide (0 < LB) = false := decide_eq_false (by omega)
          have t2 : ((LB : Int) == 0) = true := by simp [h0]
          have hB0 : B = 0 := Nl.len_zero (by rw [HL.out.2]; exact h0)
          have HG := Lib.hid (show A = Nat.gcd m n by rw [← hg.out, hB0, Nat.gcd_zero_right])
          clear hB0 h0
          go_wp2_with fail
          go_ret
          exact ⟨⟨_, rfl, by rw [← HG.out]; exact hA.out⟩, hbl.out⟩
        · have t1 : decide (0 < LB) = true := decide_eq_true (by omega)
          have hBp : 0 < B := Nat.pos_of_ne_zero fun h => h0 (by rw [← HL.out.2, h, Nl.limbs_zero]; rfl)
          have HLS := Lib.hid (leading_any _ _ A B wr hA.out hB.out (by rw [HL.out.1]; exact hlA) hle (by rw [HL.out.1]; exact h2))
          have HBP := Lib.hid hBp
          clear hBp
          go_wp2_with fail
          refine HLS.out.mono ?_
          rintro e w1 ⟨⟨p, q, r, s, rfl, hlo⟩, hb1⟩
          have HLO := Lib.hid hlo
          have HA2 := Lib.hid (hA.out.below hb1)
          have HB2 := Lib.hid (hB.out.below hb1)
          have HBL2 := Lib.hid (hbl.out.trans (hb1.mono hbl.out.size))
          clear hlo hb1 hA hB hbl HLS
          go_upto_region 5 with fail
          obtain ⟨g, hgg⟩ : ∃ g, g = w1.heap.size := ⟨_, rfl⟩
          rw [← hgg]
          obtain ⟨w2, hw2⟩ : ∃ w2, w2 = w1.alloc (.cells #[.int .i64 p, .int .i64 q, .int .i64 r, .int .i64 s] 110) := ⟨_, rfl⟩
          rw [← hw2]
          have hf : FacAt w2 g p q r s := by rw [hw2, hgg]; exact heap_alloc_new _ _
          have hb12 : Below w1.heap.size w1 w2 := by rw [hw2]; exact (Below.refl _ _).alloc (Nat.le_refl _) _
          have HA3 := Lib.hid (HA2.out.below hb12)
          have HB3 := Lib.hid (HB2.out.below hb12)
          have HBL3 := Lib.hid (HBL2.out.trans (hb12.mono HBL2.out.size))
          have c0 : w2.cell? ⟨g, 0, none⟩ = some (.int .i64 p) := cell_of_row _ _ 0 _ _ (0, 0) hf
          have c1 : w2.cell? ⟨g, 1, none⟩ = some (.int .i64 q) := cell_of_row _ _ 1 _ _ (0, 0) hf
          have c2 : w2.cell? ⟨g, 2, none⟩ = some (.int .i64 r) := cell_of_row _ _ 2 _ _ (0, 0) hf
          have c3 : w2.cell? ⟨g, 3, none⟩ = some (.int .i64 s) := cell_of_row _ _ 3 _ _ (0, 0) hf
          have HF := Lib.hid hf
          clear hgg hw2 hf hb12 HA2 HB2 HBL2 w1
          by_cases hq0 : q = 0
          · have t3 : (q == 0) = true := by simp [hq0]
            have HOV := Lib.hid (over_all _ _ A B w2 HA3.out HB3.out (by rw [HL.out.1]; omega) (by rw [HL.out.2]; omega) HBP.out)
            clear hq0
            go_wp2_with fail
            refine HOV.out.mono ?_
            rintro e w3 ⟨⟨vq, vr, rfl, -, hr3⟩, hb3⟩
            have hlt := Nat.mod_lt A HBP.out
            have HR := Lib.hid (And.intro hr3 (And.intro (HB3.out.below hb3) (And.intro (HBL3.out.trans (hb3.mono HBL3.out.size)) hlt)))
            clear hr3 hb3 hlt HOV
            go_wp2_with fail
            case roundEnd => exact ⟨⟨B, A % B, HR.out.2.1, HR.out.1, Nat.le_of_lt HR.out.2.2.2, by rw [HL.out.2]; exact hlB, by rw [Hid, Nat.gcd_comm B, ← Nat.gcd_rec, Nat.gcd_comm]; exact hg.out, HR.out.2.2.1⟩, by rw [numAt_of HR.out.1, HMU.out]; exact HR.out.2.2.2⟩
          · have t3 : (q == 0) = false := by simpa using hq0
            obtain ⟨A2, B2, eA, eB, l1, l2, l3⟩ := (HLO.out.2.2.2.2).resolve_left hq0
            have bnd := And.intro HLO.out.1 (And.intro HLO.out.2.1 (And.intro HLO.out.2.2.1 HLO.out.2.2.2.1))
            have HCA := Lib.hid (fun w' (h : Below w2.heap.size w2 w') => combined_any _ _ A B A2 p q w' (HA3.out.below h) (HB3.out.below h) (by rw [HL.out.1]; omega) hle eA (by omega) bnd.1.1 bnd.1.2 bnd.2.1.1 bnd.2.1.2)
            have HCB := Lib.hid (fun w' (h : Below w2.heap.size w2 w') => combined_any _ _ A B B2 r s w' (HA3.out.below h) (HB3.out.below h) (by rw [HL.out.1]; omega) hle eB (by omega) bnd.2.2.1.1 bnd.2.2.1.2 bnd.2.2.2.1 bnd.2.2.2.2)
            have H12 := Lib.hid (And.intro l1 (And.intro l2 l3))
            clear hq0 eA eB l1 l2 l3 bnd
            have hgl : g < w2.heap.size := lt_of_block HF.out
            go_wp2_with fail
            go_region_held3 (fun w' => w'.cell? ⟨g, 0, none⟩ = some (.int .i64 p) ∧ w'.cell? ⟨g, 1, none⟩ = some (.int .i64 q) ∧ w'.cell? ⟨g, 2, none⟩ = some (.int .i64 r) ∧ w'.cell? ⟨g, 3, none⟩ = some (.int .i64 s))
              (first
                | go_keep
                | assumption)
              (first
                | (go_at_call_of 111 (Value.int IntKind.i64 p); refine (HCA.out w2.drew (Below.drew (Below.refl _ _))).mono ?_; rintro e w3 ⟨⟨va3, rfl, hva⟩, hb3⟩; have d0 := (hb3.cell (p := ⟨g, 0, none⟩) hgl).trans c0; have d1 := (hb3.cell (p := ⟨g, 1, none⟩) hgl).trans c1; have d2 := (hb3.cell (p := ⟨g, 2, none⟩) hgl).trans c2; have d3 := (hb3.cell (p := ⟨g, 3, none⟩) hgl).trans c3)
                | (go_at_call_of 111 (Value.int IntKind.i64 r); refine (HCB.out w3 (Below.trans (b := w2.drew) (Below.drew (Below.refl _ _)) hb3)).mono ?_; rintro e w4 ⟨⟨vb4, rfl, hvb⟩, hb4⟩; have e0 := (hb4.cell (p := ⟨g, 0, none⟩) (Nat.lt_of_lt_of_le hgl hb3.size)).trans d0; have e1 := (hb4.cell (p := ⟨g, 1, none⟩) (Nat.lt_of_lt_of_le hgl hb3.size)).trans d1; have e2 := (hb4.cell (p := ⟨g, 2, none⟩) (Nat.lt_of_lt_of_le hgl hb3.size)).trans d2; have e3 := (hb4.cell (p := ⟨g, 3, none⟩) (Nat.lt_of_lt_of_le hgl hb3.size)).trans d3))
            have hb23 : Below w2.heap.size w2 w3 := Below.trans (b := w2.drew) (Below.drew (Below.refl _ _)) hb3
            have HR := Lib.hid (And.intro (hva.at.at.below hb4) (And.intro hvb.at.at (HBL3.out.trans ((hb23.trans (hb4.mono hb23.size)).mono HBL3.out.size))))
            clear hb23 hb3 hb4 hva hvb d0 d1 d2 d3 e0 e1 e2 e3 c0 c1 c2 c3 HCA HCB HF HA3 HB3 HBL3
            go_wp2_with fail
            case roundEnd => exact ⟨⟨A2, B2, HR.out.1, HR.out.2.1, Nat.le_of_lt H12.out.1, Nat.le_trans (Nl.limbs_mono H12.out.2.1) (by rw [HL.out.2]; exact hlB), by rw [Hid, H12.out.2.2]; exact hg.out, HR.out.2.2⟩, by rw [numAt_of HR.out.2.1, HMU.out]; exact Nat.lt_of_lt_of_le H12.out.1 H12.out.2.1⟩
      · have hA64 := two_words (m := A) (by rw [HL.out.1]; omega)
        by_cases h0 : LB = 0
        · have t2 : ((LB : Int) == 0) = true := by simp [h0]
          have hB0 : B = 0 := Nl.len_zero (by rw [HL.out.2]; exact h0)
          have HG := Lib.hid (show A = Nat.gcd m n by rw [← hg.out, hB0, Nat.gcd_zero_right])
          clear hB0 h0
          go_wp2_with fail
          go_ret
          exact ⟨⟨_, rfl, by rw [← HG.out]; exact hA.out⟩, hbl.out⟩
        · have t2 : ((LB : Int) == 0) = false := by rw [beq_eq_false_iff_ne]; omega
          have HUA := Lib.hid (uint_any _ A wr hA.out hA64)
          have HUB := Lib.hid (uint_any _ B wr hB.out (by omega))
          have HWW := Lib.hid (words_any A B wr hA64 (by omega))
          have hg64 : Nat.gcd A B < 18446744073709551616 := Nat.lt_of_le_of_lt (Nat.gcd_le_left B (Nat.pos_of_ne_zero fun h => by
            rw [h] at hle
            exact h0 (by rw [← HL.out.2, show B = 0 by omega, Nl.limbs_zero]; rfl))) hA64
          rw [hg.out] at HWW hg64
          clear h0
          go_wp2_with fail
          refine HUA.out.mono ?_
          rintro e w' ⟨rfl, rfl⟩
          go_wp2_with fail
          refine HUB.out.mono ?_
          rintro e w' ⟨rfl, rfl⟩
          go_wp2_with fail
          refine HWW.out.mono ?_
          rintro e w' ⟨rfl, k9, rfl⟩
          go_wp2_with fail
          refine (fromUint_num (Nat.gcd m n) _ hg64).mono ?_
          rintro e w9 ⟨⟨v, rfl, hv⟩, hb9⟩
          have HV := Lib.hid (And.intro hv.at.at (hbl.out.trans (Below.trans (b := wr.drewN k9) ((below_drewN wr k9 _).mono hbl.out.size) (hb9.mono hbl.out.size))))
          clear hv hb9
          go_wp2_with fail
          go_ret
          exact ⟨⟨_, rfl, HV.out.1⟩, HV.out.2⟩
end Go.Proofs.YtfaledeidjmooaaGreat
