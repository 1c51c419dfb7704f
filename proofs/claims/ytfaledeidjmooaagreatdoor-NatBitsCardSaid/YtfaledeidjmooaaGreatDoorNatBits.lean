/-
  NatBits returns true for any slice and any number, if bits' table is as it is listed. Conditions: those that each theorem names.
-/
import Derived.Test.YtfaledeidjmooaaGreatDoorQuotNum
import Derived.Test.YtfaledeidjmooaaGreatDoorForms
import Derived.Test.YtfaledeidjmooaaGreatDoorShl
namespace Go.Proofs.YtfaledeidjmooaaGreatDoor
open Go.RowKit

theorem pow2_len {k n : Nat} (h : k < 32 * n) : (Nl.limbs (2 ^ k)).length ≤ n := by
  apply Nl.limbs_lt
  rw [show (4294967296 : Nat) = 2 ^ 32 from rfl, ← Nat.pow_mul]
  exact Nat.pow_lt_pow_right (by decide) h
theorem limbs_two : Nl.limbs 2 = [2] := limbs_one (by decide) (by decide)
theorem nbits_is_two : nbits 2 = 2 := nbits_of (b := 1) (by decide) (by decide)
theorem at_two (w : World) (t : TypeId) : At (w.alloc (.cells #[.int .u32 2] t)) (.slice (some ⟨w.heap.size, 0, none⟩) 1 1) [2] := by
  refine .inr ⟨w.heap.size, 0, 1, rfl, trivial, by simp, by simp, by simp, fun i hi => ?_⟩
  obtain rfl : i = 0 := by simp at hi; omega
  exact cell_of_row _ _ 0 _ _ (0, 0) (heap_alloc_new _ _)
theorem pow2_num (v : Value) (k : Nat) (w : World) (h : At w v [2]) (hk : k < 32768) :
    Calls Tryz.prog 20 #[v, .int .i64 k] w fun e w' => GivesN w w' e (2 ^ k) := by
  rw [← limbs_two] at h
  have hp := pow_any v _ (k : Int) w h (Nl.limbs_small 2) (by omega) (by omega)
  rw [Nl.val_limbs, Int.toNat_natCast] at hp
  refine hp.mono fun e w' h => h.num (by rw [limbs_two]; decide) ?_ (pow2_len (by omega))
  rw [powK, if_pos (by omega), if_neg]
  rintro ⟨-, -, h3⟩
  rw [nbits_is_two, Int.toNat_natCast] at h3
  omega
theorem shl_num (va : Value) (m k : Nat) (w : World) (ha : At w va (Nl.limbs m)) (hm : (Nl.limbs m).length ≤ 1024) (hk : k ≤ 1000000) (hf : (Nl.limbs (m * 2 ^ k)).length ≤ 1024) (hb : m = 0 ∨ k + nbits m ≤ 32768) :
    Calls Tryz.prog 21 #[va, .int .i64 k] w fun e w' => GivesN w w' e (m * 2 ^ k) := by
  have hp := shl_any va _ (k : Int) w ha (Nl.limbs_small m) (by omega) (by omega)
  rw [Nl.val_limbs, Int.toNat_natCast] at hp
  refine hp.mono fun e w' h => h.num hm ?_ hf
  rw [shlK, if_pos (by omega), if_pos (by rw [Int.toNat_natCast]; exact hb)]
theorem shr_num (va : Value) (m k : Nat) (w : World) (ha : At w va (Nl.limbs m)) (hm : (Nl.limbs m).length ≤ 1024) (hk : k ≤ 1000000) :
    Calls Tryz.prog 23 #[va, .int .i64 k] w fun e w' => GivesN w w' e (m / 2 ^ k) := by
  have hp := shr_any va _ (k : Int) w ha (Nl.limbs_small m) (by omega) (by omega)
  rw [Nl.val_limbs, Int.toNat_natCast] at hp
  exact hp.mono fun e w' h => h.num hm (by rw [shrK, if_pos (by omega)]) (Nat.le_trans (Nl.limbs_mono (Nat.div_le_self _ _)) hm)
theorem bits_num (va : Value) (m : Nat) (w : World) (ha : At w va (Nl.limbs m)) (hm : (Nl.limbs m).length ≤ 1024) :
    Calls Tryz.prog 9 #[va] w fun e w' => e = .returned (.tuple #[.int .i64 (nbits m : Nat), .int .i64 0]) ∧ w = w' := by
  have h := natBits_any va _ w ha (Nl.limbs_small m)
  rw [validB_limbs hm, Nl.val_limbs, if_pos rfl, if_pos rfl] at h
  exact h.mono fun _ _ h => ⟨h.1, h.2.symm⟩
theorem zeros_num (va : Value) (m : Nat) (w : World) (ha : At w va (Nl.limbs m)) (hm : (Nl.limbs m).length ≤ 1024) (hT : TabAt w) :
    Calls Tryz.prog 10 #[va] w fun e w' => e = .returned (.tuple #[.int .i64 (tzn m : Nat), .int .i64 0]) ∧ w = w' := by
  have h := natZeros_any va _ w ha (Nl.limbs_small m) hT
  rw [validB_limbs hm, Nl.val_limbs, if_pos rfl, if_pos rfl] at h
  exact h.mono fun _ _ h => ⟨h.1, h.2.symm⟩
theorem cmpI_le_of {a b : Nat} (h : a ≤ b) : cmpI (a : Int) (b : Int) ≤ 0 := by
  rcases Nat.lt_or_eq_of_le h with h | h
  · rw [cmpI_lt h]; decide
  · rw [h, cmpI_eq]; decide
theorem nbits_words {m n : Nat} (h : (Nl.limbs m).length ≤ n) : nbits m ≤ 32 * n := by
  by_cases h0 : m = 0
  · rw [h0, nbits_zero]; omega
  · obtain ⟨k, x, hk, -, hx0, hx, hnb⟩ := top_word h0
    have := Lib.bitLen_le x 32 (by omega) (by omega)
    omega

set_option maxRecDepth 10000 in
set_option maxHeartbeats 4000000 in
theorem lawBits_num (va : Value) (x n : Nat) (w : World) (ha : At w va (Nl.limbs x)) (lx : (Nl.limbs x).length ≤ 500) (hn : n < 65536) (hT : TabAt w) :
    Calls Tryz.prog 4 #[va, .int .u16 n] w fun e w' => e = .returned (.bool true) ∧ Below w.heap.size w w' := by
  obtain ⟨w0, hw0⟩ : ∃ w0, w0 = w.alloc (.cells #[va] 23) := ⟨_, rfl⟩
  have b0 : Below w.heap.size w w0 := by rw [hw0]; exact below_new w _
  have n1 := numbers_one va (Nl.limbs x) 500 w ha (by decide)
  rw [numB_yes lx (by decide), ← hw0] at n1
  obtain ⟨k, hk⟩ : ∃ k, k = n % 10000 := ⟨_, rfl⟩
  have hk2 : (n : Int) % 10000 = (k : Int) := by omega
  have hkb : k < 10000 := by omega
  have lp : (Nl.limbs (2 ^ k)).length ≤ 313 := pow2_len (by omega)
  have lm : (Nl.limbs (x * 2 ^ k)).length ≤ 813 := Nat.le_trans (Nl.len_mul _ _) (by omega)
  have hnb := nbits_words lx
  have HL := Lib.hid (And.intro lx (And.intro lp (And.intro lm hnb)))
  have N1 := Lib.hid n1
  have HW := Lib.hid hw0
  have HA := Lib.hid (ha.below b0)
  have B0 := Lib.hid b0
  have HT := Lib.hid (hT.below b0)
  obtain ⟨pa, ca, rfl, -⟩ := ha.form
  clear ha b0 n1 hw0 hk lx lp lm hnb hT
  go_enter Tryz.func4, Tryz.ntmps4
  go_wp2_with fail
  rw [← HW.out]
  refine N1.out.mono ?_
  rintro e w' ⟨rfl, rfl⟩
  clear N1 HW
  go_wp2_with fail
  rw [hk2]
  clear hk2
  obtain ⟨w1, hw1⟩ : ∃ w1, w1 = w0.alloc (.cells #[.int .u32 2] 43) := ⟨_, rfl⟩
  have b1 : Below w0.heap.size w0 w1 := by rw [hw1]; exact below_new w0 _
  have a1 : At w1 (.slice (some ⟨w0.heap.size, 0, none⟩) 1 1) [2] := by rw [hw1]; exact at_two w0 _
  rw [← hw1]
  clear hw1
  refine (pow2_num _ k w1 a1 (by omega)).mono ?_
  rintro e w2 ⟨vp, rfl, h2, hb2⟩
  have P2 := Lib.hid h2
  have N2 := Lib.hid (b1.trans (hb2.mono b1.size))
  clear h2 hb2 a1 b1 w1
  go_wp2_with fail
  refine (shl_num _ x k w2 (HA.out.below N2.out) (by have := HL.out; omega) (by omega) (by have := HL.out; omega) (.inr (by have := HL.out; omega))).mono ?_
  rintro e w3 ⟨vl, rfl, h3, hb3⟩
  have L3 := Lib.hid h3
  have P3 := Lib.hid (P2.out.below hb3)
  have N3 := Lib.hid (N2.out.trans (hb3.mono N2.out.size))
  clear h3 hb3 P2 N2
  go_wp2_with fail
  refine (mul_fits _ vp x (2 ^ k) w3 (HA.out.below N3.out) P3.out (by have := HL.out; omega) (by have := HL.out; omega) (by have := HL.out; omega)).mono ?_
  rintro e w4 ⟨vm, rfl, h4, hb4⟩
  have M4 := Lib.hid h4
  have L4 := Lib.hid (L3.out.below hb4)
  have P4 := Lib.hid (P3.out.below hb4)
  have N4 := Lib.hid (N3.out.trans (hb4.mono N3.out.size))
  clear h4 hb4 P3 N3 L3
  go_wp2_with fail
  refine (shr_num _ x k w4 (HA.out.below N4.out) (by have := HL.out; omega) (by omega)).mono ?_
  rintro e w5 ⟨vr, rfl, h5, hb5⟩
  have R5 := Lib.hid h5
  have M5 := Lib.hid (M4.out.below hb5)
  have L5 := Lib.hid (L4.out.below hb5)
  have P5 := Lib.hid (P4.out.below hb5)
  have N5 := Lib.hid (N4.out.trans (hb5.mono N4.out.size))
  clear h5 hb5 P4 N4 L4 M4
  go_wp2_with fail
  refine (div_num _ vp x (2 ^ k) w5 (HA.out.below N5.out) P5.out (by have := HL.out; omega) (by have := HL.out; omega) (Nat.ne_of_gt (Nat.two_pow_pos k))).mono ?_
  rintro e w6 ⟨vq, vz, rfl, h6, -, hb6⟩
  have Q6 := Lib.hid h6
  have R6 := Lib.hid (R5.out.below hb6)
  have M6 := Lib.hid (M5.out.below hb6)
  have L6 := Lib.hid (L5.out.below hb6)
  have N6 := Lib.hid (N5.out.trans (hb6.mono N5.out.size))
  clear h6 hb6 P5 N5 L5 M5 R5
  have SY1 := Lib.hid (same_yes vl vm (Nl.limbs (x * 2 ^ k)) w6 L6.out M6.out)
  go_wp2_with fail
  refine SY1.out.mono ?_
  rintro e w7 ⟨rfl, k7, h7⟩
  have hb7 : Below w6.heap.size w6 w7 := by rw [h7]; exact below_drewN ..
  have N7 := Lib.hid (N6.out.trans (hb7.mono N6.out.size))
  have SY2 := Lib.hid (same_yes vr vq (Nl.limbs (x / 2 ^ k)) w7 (R6.out.below hb7) (Q6.out.below hb7))
  clear h7 hb7 N6 L6 M6 R6 Q6 SY1
  go_wp2_with fail
  refine SY2.out.mono ?_
  rintro e w8 ⟨rfl, k8, h8⟩
  have hb8 : Below w7.heap.size w7 w8 := by rw [h8]; exact below_drewN ..
  have N8 := Lib.hid (N7.out.trans (hb8.mono N7.out.size))
  clear h8 hb8 N7 SY2
  go_wp2_with fail
  refine (bits_num _ x w8 (HA.out.below N8.out) (by have := HL.out; omega)).mono ?_
  rintro e w' ⟨rfl, rfl⟩
  go_wp2_with fail
  refine (zeros_num _ x w8 (HA.out.below N8.out) (by have := HL.out; omega) (HT.out.below N8.out)).mono ?_
  rintro e w' ⟨rfl, rfl⟩
  obtain ⟨B, hB⟩ : ∃ B, B = nbits x := ⟨_, rfl⟩
  obtain ⟨Z, hZ⟩ : ∃ Z, Z = tzn x := ⟨_, rfl⟩
  rw [← hB, ← hZ]
  have hBb : B ≤ 16000 := by have := HL.out; omega
  by_cases hx0 : x = 0
  · have t1 : (((Nl.limbs x).length : Int) == 0) = true := by rw [hx0, Nl.limbs_zero]; rfl
    have t2 : B = 0 := by rw [hB, hx0]; rfl
    have t3 : Z = 0 := by rw [hZ, hx0, tzn, if_pos rfl]
    clear hx0 hB hZ
    subst t2 t3
    go_wp2_with fail
    refine (sanity_any w8).mono ?_
    rintro e w9 ⟨rfl, hb9⟩
    have N9 := Lib.hid (N8.out.trans (hb9.mono N8.out.size))
    clear hb9 N8
    go_wp2_with fail
    go_ret
    exact ⟨rfl, B0.out.trans (N9.out.mono B0.out.size)⟩
  · have t1 : (((Nl.limbs x).length : Int) == 0) = false := by have := Nl.len_pos hx0; rw [beq_eq_false_iff_ne]; omega
    have hBp : 0 < B := by rw [hB]; exact nbits_pos hx0
    have hle : 2 ^ (B - 1) ≤ x := by rw [hB]; exact nbits_le hx0
    have hlt : x < 2 ^ B := by rw [hB]; exact lt_nbits x
    have hZB : Z < B := by rw [hZ, hB]; exact (tzn_spec hx0).2
    obtain ⟨j, hj⟩ := (tzn_spec hx0).1
    rw [← hZ] at hj
    have hod : x / 2 ^ Z = 2 * j + 1 := by rw [hj, Nat.mul_div_cancel_left _ (Nat.two_pow_pos Z)]
    have hbk : x / 2 ^ Z * 2 ^ Z = x := by rw [hod, Nat.mul_comm]; exact hj.symm
    obtain ⟨D, hD⟩ : ∃ D, D = x / 2 ^ Z := ⟨_, rfl⟩
    rw [← hD] at hod hbk
    have hDx : D ≤ x := by rw [hD]; exact Nat.div_le_self _ _
    have eB : (B : Int) - 1 = ((B - 1 : Nat) : Int) := by omega
    obtain ⟨C, hC⟩ : ∃ C, C = B - 1 := ⟨_, rfl⟩
    rw [← hC] at hle eB
    have HX := Lib.hid (And.intro hle (And.intro hlt (And.intro hD (And.intro hod (And.intro hbk (And.intro hDx hx0))))))
    have hCb : C ≤ 16000 := by omega
    clear hx0 hB hZ hle hlt hj hod hbk hD hDx hC
    go_wp2_with fail
    try rw [eB]
    clear eB
    obtain ⟨w9, hw9⟩ : ∃ w9, w9 = w8.alloc (.cells #[.int .u32 2] 43) := ⟨_, rfl⟩
    have b9 : Below w8.heap.size w8 w9 := by rw [hw9]; exact below_new w8 _
    have a9 : At w9 (.slice (some ⟨w8.heap.size, 0, none⟩) 1 1) [2] := by rw [hw9]; exact at_two w8 _
    rw [← hw9]
    clear hw9
    refine (pow2_num _ C w9 a9 (by omega)).mono ?_
    rintro e w10 ⟨vt, rfl, h10, hb10⟩
    have T10 := Lib.hid h10
    have N10 := Lib.hid (N8.out.trans ((b9.trans (hb10.mono b9.size)).mono N8.out.size))
    clear h10 hb10 a9 b9 w9 N8
    go_wp2_with fail
    obtain ⟨w11, hw11⟩ : ∃ w11, w11 = w10.alloc (.cells #[.int .u32 2] 43) := ⟨_, rfl⟩
    have b11 : Below w10.heap.size w10 w11 := by rw [hw11]; exact below_new w10 _
    have a11 : At w11 (.slice (some ⟨w10.heap.size, 0, none⟩) 1 1) [2] := by rw [hw11]; exact at_two w10 _
    rw [← hw11]
    clear hw11
    refine (pow2_num _ B w11 a11 (by omega)).mono ?_
    rintro e w12 ⟨vn, rfl, h12, hb12⟩
    have X12 := Lib.hid h12
    have T12 := Lib.hid (T10.out.below (b11.trans (hb12.mono b11.size)))
    have N12 := Lib.hid (N10.out.trans ((b11.trans (hb12.mono b11.size)).mono N10.out.size))
    clear h12 hb12 a11 b11 w11 T10 N10
    go_wp2_with fail
    have l501 := pow2_len (k := C) (n := 501) (by omega)
    have l502 := pow2_len (k := B) (n := 501) (by omega)
    refine (cmp_num vt _ (2 ^ C) x w12 T12.out (HA.out.below N12.out) (by omega) (by have := HL.out; omega)).mono ?_
    rintro e w13 ⟨rfl, j13, h13⟩
    have hb13 : Below w12.heap.size w12 w13 := by rw [h13]; exact below_drewN ..
    have X13 := Lib.hid (X12.out.below hb13)
    have N13 := Lib.hid (N12.out.trans (hb13.mono N12.out.size))
    obtain ⟨c1, hc1⟩ : ∃ c1, c1 = cmpI ((2 ^ C : Nat) : Int) ((x : Nat) : Int) := ⟨_, rfl⟩
    rw [← hc1]
    have hc1' : c1 ≤ 0 := by rw [hc1]; exact cmpI_le_of HX.out.1
    clear h13 hb13 hc1 X12 T12 N12
    go_wp2_with fail
    refine (cmp_num _ vn x (2 ^ B) w13 (HA.out.below N13.out) X13.out (by have := HL.out; omega) (by omega)).mono ?_
    rintro e w14 ⟨rfl, j14, h14⟩
    have N14 := Lib.hid (N13.out.trans ((show Below w13.heap.size w13 w14 by rw [h14]; exact below_drewN ..).mono N13.out.size))
    rw [cmpI_lt HX.out.2.1]
    clear h14 X13 N13 l501 l502
    go_wp2_with fail
    refine (shr_num _ x Z w14 (HA.out.below N14.out) (by have := HL.out; omega) (by omega)).mono ?_
    rintro e w15 ⟨vo, rfl, h15, hb15⟩
    rw [← HX.out.2.2.1] at h15
    have O15 := Lib.hid h15
    have N15 := Lib.hid (N14.out.trans (hb15.mono N14.out.size))
    have ld : (Nl.limbs D).length ≤ 500 := Nat.le_trans (Nl.limbs_mono HX.out.2.2.2.2.2.1) (by have := HL.out; omega)
    have hD0 : D ≠ 0 := by have := HX.out.2.2.2.1; omega
    obtain ⟨po, co, rfl, -⟩ := h15.form
    have hlp := Nl.len_pos hD0
    obtain ⟨bo, fo, rfl, hbo, hco⟩ := (h15.mono (q := (· < w15.heap.size)) fun _ h _ => h).cells hlp
    have d0 := hco 0 hlp
    obtain ⟨y, hy⟩ : ∃ y, y = (Nl.limbs D).getD 0 0 := ⟨_, rfl⟩
    rw [Nat.add_zero, ← hy] at d0
    have hy1 : y % 2 = 1 := by
      have h := HX.out.2.2.2.1
      rw [hy, Nl.limbs_pos hD0]
      simp
      omega
    have hy2 : y < 4294967296 := by rw [hy]; exact (Nl.limbs_small D).getD 0
    have hnD := nbits_words ld
    have hfit : (Nl.limbs (D * 2 ^ Z)).length ≤ 1024 := by rw [HX.out.2.2.2.2.1]; have := HL.out; omega
    have HSL := Lib.hid (shl_num _ D Z w15 O15.out (by omega) (by omega) hfit (.inr (by omega)))
    rw [HX.out.2.2.2.2.1] at HSL
    have HD0 := Lib.hid hD0
    clear h15 hb15 N14 hco hy hD0 hnD hfit
    go_wp2_with fail
    refine HSL.out.mono ?_
    rintro e w16 ⟨vb, rfl, h16, hb16⟩
    have K16 := Lib.hid h16
    have N16 := Lib.hid (N15.out.trans (hb16.mono N15.out.size))
    have d1 : w16.cell? ⟨bo, fo, none⟩ = some (.int .u32 (y : Int)) := (hb16.cell (p := ⟨bo, fo, none⟩) hbo).trans d0
    have hbo16 : bo < w16.heap.size := Nat.lt_of_lt_of_le hbo hb16.size
    clear h16 hb16 d0 N15 HSL
    go_wp2_with fail
    refine (sanity_any w16).mono ?_
    rintro e w17 ⟨rfl, hb17⟩
    have N17 := Lib.hid (N16.out.trans (hb17.mono N16.out.size))
    have K17 := Lib.hid (K16.out.below hb17)
    have d2 : w17.cell? ⟨bo, fo, none⟩ = some (.int .u32 (y : Int)) := (hb17.cell (p := ⟨bo, fo, none⟩) hbo16).trans d1
    clear hb17 d1 N16 K16
    have hlp' : 0 < (Nl.limbs D).length := hlp
    have t5 : decide (0 < (Nl.limbs D).length) = true := decide_eq_true hlp
    have t6 : (y : Int) % 2 = 1 := by omega
    have t7 : ((y : Int) % 2 == 1) = true := by rw [t6]; rfl
    have SY := Lib.hid (same_yes vb _ (Nl.limbs x) w17 K17.out (HA.out.below N17.out))
    go_wp2_with fail
    refine SY.out.mono ?_
    rintro e w18 ⟨rfl, k18, h18⟩
    have N18 := Lib.hid (N17.out.trans ((show Below w17.heap.size w17 w18 by rw [h18]; exact below_drewN ..).mono N17.out.size))
    clear h18 N17 SY
    go_wp2_with fail
    go_ret
    exact ⟨rfl, B0.out.trans (N18.out.mono B0.out.size)⟩

set_option maxRecDepth 10000 in
theorem lawBits_any (va : Value) (xs : List Nat) (n : Nat) (w : World) (ha : At w va xs) (hsx : Nl.Small xs) (hn : n < 65536) (hT : TabAt w) :
    Calls Tryz.prog 4 #[va, .int .u16 n] w fun e w' => e = .returned (.bool true) ∧ Below w.heap.size w w' := by
  by_cases hall : numB 500 xs = true
  · simp only [numB, Bool.and_eq_true, decide_eq_true_eq] at hall
    obtain ⟨lx, vx⟩ := hall
    have ex := at_limbs ha hsx vx
    rw [ex] at ha lx
    exact lawBits_num va _ n w ha lx hn hT
  · obtain ⟨pa, ca, rfl, -⟩ := ha.form
    have bn := below_new w (.cells #[.slice pa xs.length ca] 23)
    have h1 := numbers_one _ xs 500 w ha (by decide)
    rw [show numB 500 xs = false by simpa using hall] at h1
    have HN := Lib.hid h1
    have BN := Lib.hid bn
    clear hall ha h1 bn hT
    go_enter Tryz.func4, Tryz.ntmps4
    go_wp2_with fail
    refine HN.out.mono ?_
    rintro e w' ⟨rfl, rfl⟩
    go_wp2_with fail
    refine (sanity_any _).mono ?_
    rintro e w3 ⟨rfl, hb3⟩
    have B3 := Lib.hid (BN.out.trans (hb3.mono BN.out.size))
    clear hb3
    go_wp2_with fail
    go_ret
    exact ⟨rfl, B3.out⟩
end Go.Proofs.YtfaledeidjmooaaGreatDoor
