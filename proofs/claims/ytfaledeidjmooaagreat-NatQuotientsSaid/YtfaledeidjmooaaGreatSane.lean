/-
  The pieces of the self-test. The self-test returns true. Conditions: those that each theorem names.
-/
import Derived.Test.YtfaledeidjmooaaGreatDigits
namespace Go.Proofs.YtfaledeidjmooaaGreat
open Go.RowKit

def digitsF : Nat → Nat → List Nat
  | 0, _ => []
  | k + 1, n => if n = 0 then [] else (48 + n % 10) :: digitsF k (n / 10)
theorem digitsF_eq : ∀ (k m : Nat), m < 2 ^ k → digitsL m = digitsF k m
  | 0, m, h => by
    have : m = 0 := by have : m < 1 := h; omega
    rw [this, digitsL_zero]; rfl
  | k + 1, m, h => by
    by_cases h0 : m = 0
    · rw [h0, digitsL_zero]; simp [digitsF]
    · rw [digitsL_pos h0, digitsF, if_neg h0, digitsF_eq k (m / 10) (by rw [Nat.pow_succ] at h; omega)]
def big : Nat := 1267650600228229401496703205376
theorem big_eq : 2 ^ 100 = big := by decide
theorem big_text : textOf big = ⟨#[49, 50, 54, 55, 54, 53, 48, 54, 48, 48, 50, 50, 56, 50, 50, 57, 52, 48, 49, 52, 57, 54, 55, 48, 51, 50, 48, 53, 51, 55, 54]⟩ := by
  rw [textOf, if_neg (by decide), digitsF_eq 101 big (by decide)]
  rfl

theorem at_new (w : World) (xs : List Nat) (n : Nat) (hn : xs.length = n) (hl : n ≤ 1000) : At (w.alloc (.cells (vals xs).toArray 59)) (.slice (some ⟨w.heap.size, 0, none⟩) n n) xs := by
  subst hn
  have hr := row_new w xs
  exact .inr ⟨w.heap.size, 0, xs.length, rfl, trivial, Nat.le_refl _, by omega, hr.lt, fun i hi => by rw [Nat.zero_add]; exact hr.cell hi⟩
theorem below_new (w : World) (o : Obj) : Below w.heap.size w (w.alloc o) := (Below.refl _ _).alloc (Nat.le_refl _) _

theorem limbs_lit2 {a b : Nat} (ha : a < 4294967296) (hb : b < 4294967296) (h0 : b ≠ 0) : Nl.limbs (a + 4294967296 * b) = [a, b] := by
  rw [Nl.limbs_pos (by omega), show (a + 4294967296 * b) / 4294967296 = b by omega, show (a + 4294967296 * b) % 4294967296 = a by omega, limbs_one h0 hb]
theorem len_small (m : Nat) (h : m < 4294967296 ^ 5) : (Nl.limbs m).length ≤ 5 := Nl.limbs_lt h

set_option maxHeartbeats 1000000 in
theorem s_div1 (w : World) : Calls Tryz.prog 31 #[.slice (some ⟨w.heap.size, 0, none⟩) 2 2, .slice (some ⟨w.heap.size + 1, 0, none⟩) 1 1] ((w.alloc (.cells #[.int .u32 4294967295, .int .u32 4294967295] 59)).alloc (.cells #[.int .u32 10] 59)) fun e w' =>
    (∃ u v, e = .returned (.tuple #[u, v, .int .i64 0]) ∧ At w' u (Nl.limbs 1844674407370955161) ∧ At w' v (Nl.limbs 5)) ∧ Below w.heap.size w w' := by
  obtain ⟨w1, h1⟩ : ∃ w1, w1 = w.alloc (.cells #[.int .u32 4294967295, .int .u32 4294967295] 59) := ⟨_, rfl⟩
  have hs1 : w1.heap.size = w.heap.size + 1 := by rw [h1]; simp
  have a1 : At w1 (.slice (some ⟨w.heap.size, 0, none⟩) 2 2) [4294967295, 4294967295] := by rw [h1]; exact at_new w [4294967295, 4294967295] 2 rfl (by decide)
  have b1 : Below w.heap.size w w1 := by rw [h1]; exact below_new w _
  rw [← h1, ← hs1]
  have a2 : At (w1.alloc (.cells #[.int .u32 10] 59)) (.slice (some ⟨w1.heap.size, 0, none⟩) 1 1) [10] := at_new w1 [10] 1 rfl (by decide)
  have b2 := below_new w1 (.cells #[.int .u32 10] 59)
  refine (div_any _ _ [4294967295, 4294967295] [10] _ (a1.below b2) a2 (by simp [Nl.Small]) (by simp [Nl.Small]) (fun v1 v2 h0 w' hw' => ?_)).mono ?_
  · exact over_one _ _ _ _ _ ((At.num (a1.below b2) (by simp [Nl.Small]) v1).below hw') ((At.num a2 (by simp [Nl.Small]) v2).below hw') (Nat.le_trans (validB_eq (by simp [Nl.Small]) v1).2 (by decide)) (by decide) (by decide)
  · rintro e w2 ⟨c, hc, ⟨u, v, rfl, h2, h3⟩, hb⟩
    have hc0 : c = 0 := by
      rcases hc with ⟨_, _, h⟩ | ⟨h, _⟩
      · rw [h]; decide
      · rcases h with h | h <;> exact absurd h (by decide)
    subst hc0
    obtain ⟨o1, o2⟩ := h2 rfl
    exact ⟨⟨u, v, rfl, o1.at.at, o2.at.at⟩, b1.trans ((b2.trans (hb.mono b2.size)).mono b1.size)⟩

set_option maxHeartbeats 1000000 in
theorem s_pow (w : World) : Calls Tryz.prog 28 #[.slice (some ⟨w.heap.size, 0, none⟩) 1 1, .int .i64 100] (w.alloc (.cells #[.int .u32 2] 59)) fun e w' =>
    (∃ v, e = .returned (.tuple #[v, .int .i64 0]) ∧ At w' v (Nl.limbs big)) ∧ Below w.heap.size w w' := by
  have a1 : At (w.alloc (.cells #[.int .u32 2] 59)) (.slice (some ⟨w.heap.size, 0, none⟩) 1 1) [2] := at_new w [2] 1 rfl (by decide)
  have b1 := below_new w (.cells #[.int .u32 2] 59)
  refine (pow_any _ [2] 100 _ a1 (by simp [Nl.Small]) (by decide) (by decide)).mono ?_
  rintro e w2 ⟨c, hc, ⟨v, rfl, h2, h3⟩, hb⟩
  have e1 : Nl.val [2] ^ (100 : Int).toNat = big := big_eq
  rw [e1] at hc h2
  have hk : powK (Nl.val [2]) 100 = 0 := by
    have : nbits 2 = 2 := nbits_of (b := 1) (by decide) (by decide)
    rw [powK, if_pos (by decide), show Nl.val [2] = 2 from rfl, this, if_neg (by decide)]
  have hc0 : c = 0 := by
    rcases hc with ⟨_, h⟩ | ⟨h, _⟩
    · rw [h, hk, codeOf, if_neg (by decide), if_pos (by have := len_small big (by decide); omega)]
    · exact absurd h (by decide)
  subst hc0
  exact ⟨⟨v, rfl, (h2 rfl).at.at⟩, b1.trans (hb.mono b1.size)⟩

set_option maxHeartbeats 1000000 in
/-- the text of a valid number other than 0 -/
theorem natText_pos (va : Value) (m : Nat) (w : World) (ha : IsN w va m) (hl : (Nl.limbs m).length ≤ 1024) (h0 : m ≠ 0) :
    Calls Tryz.prog 42 #[va] w fun e w' => e = .returned (.tuple #[.string (textOf m), .int .i64 0]) ∧ Below w.heap.size w w' := by
  have hv := valid_any va _ w ha
  rw [validB_limbs (by omega)] at hv
  have HV := Lib.hid hv
  have HT := Lib.hid (text_pos va m w ha (by omega) h0)
  obtain ⟨a, ca, rfl, -⟩ := ha.form
  clear ha hl h0 hv
  go_enter Tryz.func42, Tryz.ntmps42
  go_wp2_with (go_at_call 56; refine HV.out.mono ?_; rintro e w' ⟨rfl, rfl⟩)
  refine HT.out.mono ?_
  rintro e w1 ⟨rfl, hb⟩
  have HB := Lib.hid hb
  clear hb
  go_wp2_with fail
  go_ret2
  exact ⟨rfl, HB.out⟩
theorem s_text (v : Value) (w : World) (h : At w v (Nl.limbs big)) : Calls Tryz.prog 42 #[v] w fun e w' => e = .returned (.tuple #[.string { data := #[49, 50, 54, 55, 54, 53, 48, 54, 48, 48, 50, 50, 56, 50, 50, 57, 52, 48, 49, 52, 57, 54, 55, 48, 51, 50, 48, 53, 51, 55, 54] }, .int .i64 0]) ∧ Below w.heap.size w w' := by
  have := natText_pos v big w h (by have := len_small big (by decide); omega) (by decide)
  rwa [big_text] at this

set_option maxHeartbeats 1000000 in
theorem s_root (w : World) : Calls Tryz.prog 36 #[.slice (some ⟨w.heap.size, 0, none⟩) 1 1, .int .i64 2] (w.alloc (.cells #[.int .u32 99] 59)) fun e w' =>
    (∃ u v, e = .returned (.tuple #[u, v, .int .i64 0]) ∧ At w' u (Nl.limbs 9) ∧ At w' v (Nl.limbs 18)) ∧ Below w.heap.size w w' := by
  have a1 : At (w.alloc (.cells #[.int .u32 99] 59)) (.slice (some ⟨w.heap.size, 0, none⟩) 1 1) [99] := at_new w [99] 1 rfl (by decide)
  have b1 := below_new w (.cells #[.int .u32 99] 59)
  have n99 : nbits 99 = 7 := nbits_of (b := 6) (by decide) (by decide)
  have hb2 : 2 ≤ Lib.bitLen 2 + 8 := by omega
  have r9 : IsRoot 2 99 9 := ⟨by decide, by decide⟩
  refine (root_any _ [99] 9 18 2 _ a1 (fun _ => Nat.le_trans (len_small 9 (by decide)) (by decide)) (fun _ => Nat.le_trans (len_small 18 (by decide)) (by decide)) (fun v1 _ w' hw' => ?_)).mono ?_
  · have hn : IsN w' (.slice (some ⟨w.heap.size, 0, none⟩) 1 1) 99 := (At.num a1 (by simp [Nl.Small]) v1).below hw'
    have h99 : (Nl.limbs 99).length ≤ 1024 := Nat.le_trans (len_small 99 (by decide)) (by decide)
    exact rootAndRest_of _ 99 2 9 w' hn h99 (by decide) (by decide) r9 (fun _ _ w2 hw2 => root_small _ 99 2 w2 (hn.below hw2) h99 (by decide) (by decide) (by rw [n99]; omega))
  · rintro e w2 ⟨c, hc, ⟨u, v, rfl, h2, h3⟩, hb⟩
    have hc0 : c = 0 := by
      rcases hc with ⟨_, h⟩ | ⟨h, _⟩
      · rw [h]; decide
      · exact absurd h (by decide)
    subst hc0
    obtain ⟨o1, o2⟩ := h2 rfl
    exact ⟨⟨u, v, rfl, o1.at.at, o2.at.at⟩, b1.trans (hb.mono b1.size)⟩

set_option maxHeartbeats 1000000 in
theorem s_div0 (w : World) : Calls Tryz.prog 31 #[.slice (some ⟨w.heap.size, 0, none⟩) 1 1, .slice none 0 0] (w.alloc (.cells #[.int .u32 1] 59)) fun e w' =>
    (∃ u v, e = .returned (.tuple #[u, v, .int .i64 8])) ∧ Below w.heap.size w w' := by
  have a1 : At (w.alloc (.cells #[.int .u32 1] 59)) (.slice (some ⟨w.heap.size, 0, none⟩) 1 1) [1] := at_new w [1] 1 rfl (by decide)
  have b1 := below_new w (.cells #[.int .u32 1] 59)
  refine (div_any _ (.slice none 0 0) [1] [] _ a1 (.inl ⟨rfl, rfl⟩) (by simp [Nl.Small]) (by simp [Nl.Small]) (fun v1 v2 h0 w' hw' => absurd rfl h0)).mono ?_
  rintro e w2 ⟨c, hc, ⟨u, v, rfl, h2, h3⟩, hb⟩
  have hc0 : c = 8 := by
    rcases hc with ⟨_, _, h⟩ | ⟨h, _⟩
    · rw [h]; decide
    · rcases h with h | h <;> exact absurd h (by decide)
  subst hc0
  exact ⟨⟨u, v, rfl⟩, b1.trans (hb.mono b1.size)⟩

set_option maxHeartbeats 1000000 in
theorem s_mul (w : World) : Calls Tryz.prog 27 #[.slice (some ⟨w.heap.size, 0, none⟩) 1 1, .slice (some ⟨w.heap.size + 1, 0, none⟩) 1 1] ((w.alloc (.cells #[.int .u32 4294967295] 59)).alloc (.cells #[.int .u32 4294967295] 59)) fun e w' =>
    (∃ v, e = .returned (.tuple #[v, .int .i64 0]) ∧ At w' v (Nl.limbs 18446744065119617025)) ∧ Below w.heap.size w w' := by
  obtain ⟨w1, h1⟩ : ∃ w1, w1 = w.alloc (.cells #[.int .u32 4294967295] 59) := ⟨_, rfl⟩
  have hs1 : w1.heap.size = w.heap.size + 1 := by rw [h1]; simp
  have a1 : At w1 (.slice (some ⟨w.heap.size, 0, none⟩) 1 1) [4294967295] := by rw [h1]; exact at_new w [4294967295] 1 rfl (by decide)
  have b1 : Below w.heap.size w w1 := by rw [h1]; exact below_new w _
  rw [← h1, ← hs1]
  have a2 : At (w1.alloc (.cells #[.int .u32 4294967295] 59)) (.slice (some ⟨w1.heap.size, 0, none⟩) 1 1) [4294967295] := at_new w1 [4294967295] 1 rfl (by decide)
  have b2 := below_new w1 (.cells #[.int .u32 4294967295] 59)
  refine (mul_any _ _ [4294967295] [4294967295] _ (a1.below b2) a2 (by simp [Nl.Small]) (by simp [Nl.Small])).mono ?_
  rintro e w2 ⟨c, hc, ⟨v, rfl, h2, h3⟩, hb⟩
  have l1 : (Nl.limbs 4294967295).length = 1 := by rw [limbs_one (by decide) (by decide)]; rfl
  have hk : mulK 1 80 (Nl.val [4294967295]) (Nl.val [4294967295]) = 0 := by
    rw [show Nl.val [4294967295] = 4294967295 from rfl, mulK, if_neg (by decide), if_pos (.inr (.inr (by rw [l1]; decide)))]
  have hc0 : c = 0 := by
    rcases hc with ⟨_, _, h⟩ | ⟨h, _⟩
    · rw [h, hk, codeOf, if_neg (by decide), if_pos (Nat.le_trans (len_small _ (by decide)) (by decide))]
    · rcases h with h | h <;> exact absurd h (by decide)
  subst hc0
  exact ⟨⟨v, rfl, (h2 rfl).at.at⟩, b1.trans ((b2.trans (hb.mono b2.size)).mono b1.size)⟩

set_option maxHeartbeats 1000000 in
theorem s_gcd (w : World) : Calls Tryz.prog 32 #[.slice (some ⟨w.heap.size, 0, none⟩) 1 1, .slice (some ⟨w.heap.size + 1, 0, none⟩) 1 1] ((w.alloc (.cells #[.int .u32 12] 59)).alloc (.cells #[.int .u32 18] 59)) fun e w' =>
    (∃ v, e = .returned (.tuple #[v, .int .i64 0]) ∧ At w' v (Nl.limbs 6)) ∧ Below w.heap.size w w' := by
  obtain ⟨w1, h1⟩ : ∃ w1, w1 = w.alloc (.cells #[.int .u32 12] 59) := ⟨_, rfl⟩
  have hs1 : w1.heap.size = w.heap.size + 1 := by rw [h1]; simp
  have a1 : At w1 (.slice (some ⟨w.heap.size, 0, none⟩) 1 1) [12] := by rw [h1]; exact at_new w [12] 1 rfl (by decide)
  have b1 : Below w.heap.size w w1 := by rw [h1]; exact below_new w _
  rw [← h1, ← hs1]
  have a2 : At (w1.alloc (.cells #[.int .u32 18] 59)) (.slice (some ⟨w1.heap.size, 0, none⟩) 1 1) [18] := at_new w1 [18] 1 rfl (by decide)
  have b2 := below_new w1 (.cells #[.int .u32 18] 59)
  refine (gcd_any _ _ [12] [18] 6 _ (a1.below b2) a2 (fun v1 v2 w' hw' => ?_)).mono ?_
  · exact commonDivisor_small _ _ 12 18 w' ((At.num (a1.below b2) (by simp [Nl.Small]) v1).below hw') ((At.num a2 (by simp [Nl.Small]) v2).below hw') (by decide) (by decide)
  · rintro e w2 ⟨c, hc, ⟨v, rfl, h2, h3⟩, hb⟩
    have hc0 : c = 0 := by
      rcases hc with ⟨_, _, h⟩ | ⟨h, _⟩
      · rw [h, codeOf, if_neg (by decide), if_pos (Nat.le_trans (len_small _ (by decide)) (by decide))]
      · rcases h with h | h <;> exact absurd h (by decide)
    subst hc0
    exact ⟨⟨v, rfl, (h2 rfl).at.at⟩, b1.trans ((b2.trans (hb.mono b2.size)).mono b1.size)⟩

set_option maxHeartbeats 1000000 in
theorem s_sub (w : World) : Calls Tryz.prog 20 #[.slice (some ⟨w.heap.size, 0, none⟩) 1 1, .slice (some ⟨w.heap.size + 1, 0, none⟩) 1 1] ((w.alloc (.cells #[.int .u32 1] 59)).alloc (.cells #[.int .u32 2] 59)) fun e w' =>
    (∃ v, e = .returned (.tuple #[v, .int .i64 3])) ∧ Below w.heap.size w w' := by
  obtain ⟨w1, h1⟩ : ∃ w1, w1 = w.alloc (.cells #[.int .u32 1] 59) := ⟨_, rfl⟩
  have hs1 : w1.heap.size = w.heap.size + 1 := by rw [h1]; simp
  have a1 : At w1 (.slice (some ⟨w.heap.size, 0, none⟩) 1 1) [1] := by rw [h1]; exact at_new w [1] 1 rfl (by decide)
  have b1 : Below w.heap.size w w1 := by rw [h1]; exact below_new w _
  rw [← h1, ← hs1]
  have a2 : At (w1.alloc (.cells #[.int .u32 2] 59)) (.slice (some ⟨w1.heap.size, 0, none⟩) 1 1) [2] := at_new w1 [2] 1 rfl (by decide)
  have b2 := below_new w1 (.cells #[.int .u32 2] 59)
  refine (sub_any _ _ [1] [2] _ (a1.below b2) a2 (by simp [Nl.Small]) (by simp [Nl.Small])).mono ?_
  rintro e w2 ⟨c, hc, ⟨v, rfl, h2, h3⟩, hb⟩
  have hc0 : c = 3 := by
    rcases hc with ⟨_, _, h⟩ | ⟨h, _⟩
    · rw [h]; rfl
    · rcases h with h | h <;> exact absurd h (by decide)
  subst hc0
  exact ⟨⟨v, rfl⟩, b1.trans ((b2.trans (hb.mono b2.size)).mono b1.size)⟩


theorem sameB_self (xs : List Nat) : sameB xs xs = true := decide_eq_true rfl
theorem same_self (va vb : Value) (xs : List Nat) (w : World) (ha : At w va xs) (hb : At w vb xs) :
    Calls Tryz.prog 34 #[va, vb] w fun e w' => e = .returned (.bool true) ∧ Below w.heap.size w w' := by
  refine (same_any va vb xs xs w ha hb).mono ?_
  rintro e w' ⟨rfl, k, rfl⟩
  exact ⟨by rw [sameB_self], below_drewN ..⟩
theorem at_lit (w : World) (x : Nat) : At (w.alloc (.cells #[.int .u32 (x : Int)] 59)) (.slice (some ⟨w.heap.size, 0, none⟩) 1 1) [x] := at_new w [x] 1 rfl (by decide)

set_option maxRecDepth 10000 in
set_option maxHeartbeats 4000000 in
theorem sanity_any (w : World) : Calls Tryz.prog 18 #[] w fun e w' => e = .returned (.bool true) ∧ Below w.heap.size w w' := by
  go_enter Tryz.func18, Tryz.ntmps18
  go_wp2_with fail
  refine (s_div1 w).mono ?_
  rintro e w1 ⟨⟨t1, t2, rfl, h1, h2⟩, hb1⟩
  rw [limbs_one (by decide) (by decide)] at h2
  have H1 := Lib.hid h1
  have H2 := Lib.hid h2
  have B1 := Lib.hid hb1
  clear h1 h2 hb1
  go_wp2_with fail
  refine (s_pow w1).mono ?_
  rintro e w2 ⟨⟨t4, rfl, h4⟩, hb⟩
  have H4 := Lib.hid h4
  have H1' := Lib.hid (H1.out.below hb)
  have H2' := Lib.hid (H2.out.below hb)
  have B2 := Lib.hid (B1.out.trans (hb.mono B1.out.size))
  clear h4 hb H1 H2 B1
  go_wp2_with fail
  refine (s_text t4 w2 H4.out).mono ?_
  rintro e w3 ⟨rfl, hb⟩
  have H1 := Lib.hid (H1'.out.below hb)
  have H2 := Lib.hid (H2'.out.below hb)
  have B3 := Lib.hid (B2.out.trans (hb.mono B2.out.size))
  clear hb H1' H2' B2 H4
  go_wp2_with fail
  refine (s_root w3).mono ?_
  rintro e w4 ⟨⟨t8, t9, rfl, h8, h9⟩, hb⟩
  rw [limbs_one (by decide) (by decide)] at h8 h9
  have H8 := Lib.hid h8
  have H9 := Lib.hid h9
  have H1' := Lib.hid (H1.out.below hb)
  have H2' := Lib.hid (H2.out.below hb)
  have B4 := Lib.hid (B3.out.trans (hb.mono B3.out.size))
  clear h8 h9 hb H1 H2 B3
  go_wp2_with fail
  refine (s_div0 w4).mono ?_
  rintro e w5 ⟨⟨t11, t12, rfl⟩, hb⟩
  have H1 := Lib.hid (H1'.out.below hb)
  have H2 := Lib.hid (H2'.out.below hb)
  have H8' := Lib.hid (H8.out.below hb)
  have H9' := Lib.hid (H9.out.below hb)
  have B5 := Lib.hid (B4.out.trans (hb.mono B4.out.size))
  clear hb H1' H2' H8 H9 B4
  go_wp2_with fail
  refine (refOf_any 1844674407370955161 w5 (by decide)).mono ?_
  rintro e w6 ⟨⟨to, rfl, ho⟩, hb⟩
  have HO := Lib.hid ho
  have H1' := Lib.hid (H1.out.below hb)
  have H2' := Lib.hid (H2.out.below hb)
  have H8 := Lib.hid (H8'.out.below hb)
  have H9 := Lib.hid (H9'.out.below hb)
  have B6 := Lib.hid (B5.out.trans (hb.mono B5.out.size))
  clear ho hb H1 H2 H8' H9' B5
  go_wp2_with fail
  refine (same_self t1 to _ w6 H1'.out HO.out).mono ?_
  rintro e w7 ⟨rfl, hb⟩
  have H2 := Lib.hid (H2'.out.below hb)
  have H8' := Lib.hid (H8.out.below hb)
  have H9' := Lib.hid (H9.out.below hb)
  have B7 := Lib.hid (B6.out.trans (hb.mono B6.out.size))
  clear hb H1' H2' H8 H9 B6 HO
  go_wp2_with fail
  have bn := below_new w7 (.cells #[.int .u32 5] 59)
  refine (same_self t2 _ [5] _ (H2.out.below bn) (at_lit w7 5)).mono ?_
  rintro e w8 ⟨rfl, hb⟩
  have H8 := Lib.hid ((H8'.out.below bn).below hb)
  have H9 := Lib.hid ((H9'.out.below bn).below hb)
  have B8 := Lib.hid (B7.out.trans ((bn.trans (hb.mono bn.size)).mono B7.out.size))
  clear hb bn H2 H8' H9' B7
  go_wp2_with fail
  have bn := below_new w8 (.cells #[.int .u32 9] 59)
  refine (same_self t8 _ [9] _ (H8.out.below bn) (at_lit w8 9)).mono ?_
  rintro e w9 ⟨rfl, hb⟩
  have H9' := Lib.hid ((H9.out.below bn).below hb)
  have B9 := Lib.hid (B8.out.trans ((bn.trans (hb.mono bn.size)).mono B8.out.size))
  clear hb bn H8 H9 B8
  go_wp2_with fail
  have bn := below_new w9 (.cells #[.int .u32 18] 59)
  refine (same_self t9 _ [18] _ (H9'.out.below bn) (at_lit w9 18)).mono ?_
  rintro e w10 ⟨rfl, hb⟩
  have B10 := Lib.hid (B9.out.trans ((bn.trans (hb.mono bn.size)).mono B9.out.size))
  clear hb bn H9' B9
  go_wp2_with fail
  refine (s_mul w10).mono ?_
  rintro e w11 ⟨⟨t14, rfl, h14⟩, hb⟩
  rw [show Nl.limbs 18446744065119617025 = [1, 4294967294] from limbs_lit2 (a := 1) (b := 4294967294) (by decide) (by decide) (by decide)] at h14
  have H14 := Lib.hid h14
  have B11 := Lib.hid (B10.out.trans (hb.mono B10.out.size))
  clear hb h14 B10
  go_wp2_with fail
  refine (s_gcd w11).mono ?_
  rintro e w12 ⟨⟨t15, rfl, h15⟩, hb⟩
  rw [limbs_one (by decide) (by decide)] at h15
  have H15 := Lib.hid h15
  have H14' := Lib.hid (H14.out.below hb)
  have B12 := Lib.hid (B11.out.trans (hb.mono B11.out.size))
  clear hb h15 H14 B11
  go_wp2_with fail
  refine (s_sub w12).mono ?_
  rintro e w13 ⟨⟨t7, rfl⟩, hb⟩
  have H15' := Lib.hid (H15.out.below hb)
  have H14 := Lib.hid (H14'.out.below hb)
  have B13 := Lib.hid (B12.out.trans (hb.mono B12.out.size))
  clear hb H15 H14' B12
  go_wp2_with fail
  refine (parse_007 w13).mono ?_
  rintro e w14 ⟨⟨tp, rfl⟩, hb⟩
  have H15 := Lib.hid (H15'.out.below hb)
  have H14' := Lib.hid (H14.out.below hb)
  have B14 := Lib.hid (B13.out.trans (hb.mono B13.out.size))
  clear hb H15' H14 B13
  go_wp2_with fail
  have bn := below_new w14 (.cells #[.int .u32 1, .int .u32 4294967294] 59)
  refine (same_self t14 _ [1, 4294967294] _ (H14'.out.below bn) (at_new w14 [1, 4294967294] 2 rfl (by decide))).mono ?_
  rintro e w15 ⟨rfl, hb⟩
  have H15' := Lib.hid ((H15.out.below bn).below hb)
  have B15 := Lib.hid (B14.out.trans ((bn.trans (hb.mono bn.size)).mono B14.out.size))
  clear hb bn H15 H14' B14
  go_wp2_with fail
  have bn := below_new w15 (.cells #[.int .u32 6] 59)
  refine (same_self t15 _ [6] _ (H15'.out.below bn) (at_lit w15 6)).mono ?_
  rintro e w16 ⟨rfl, hb⟩
  have B16 := Lib.hid (B15.out.trans ((bn.trans (hb.mono bn.size)).mono B15.out.size))
  clear hb bn H15' B15
  go_wp2_with fail
  have v1 : Calls Tryz.prog 56 #[.slice (some ⟨w16.heap.size, 0, none⟩) 2 2] (w16.alloc (.cells #[.int .u32 5, .int .u32 0] 59)) fun e w' => e = .returned (.bool false) ∧ w16.alloc (.cells #[.int .u32 5, .int .u32 0] 59) = w' :=
    valid_any _ [5, 0] _ (at_new w16 [5, 0] 2 rfl (by decide))
  refine v1.mono ?_
  rintro e w17 ⟨rfl, rfl⟩
  have B17 := Lib.hid (B16.out.trans ((below_new w16 (.cells #[.int .u32 5, .int .u32 0] 59)).mono B16.out.size))
  clear v1 B16
  obtain ⟨w17, hw17⟩ : ∃ w17, w17 = w16.alloc (.cells #[.int .u32 5, .int .u32 0] 59) := ⟨_, rfl⟩
  rw [← hw17] at B17 ⊢
  clear hw17
  go_wp2_with fail
  have v1 : Calls Tryz.prog 56 #[.slice (some ⟨w17.heap.size, 0, none⟩) 2 2] (w17.alloc (.cells #[.int .u32 0, .int .u32 1] 59)) fun e w' => e = .returned (.bool true) ∧ w17.alloc (.cells #[.int .u32 0, .int .u32 1] 59) = w' :=
    valid_any _ [0, 1] _ (at_new w17 [0, 1] 2 rfl (by decide))
  refine v1.mono ?_
  rintro e w18 ⟨rfl, rfl⟩
  have B18 := Lib.hid (B17.out.trans ((below_new w17 (.cells #[.int .u32 0, .int .u32 1] 59)).mono B17.out.size))
  clear v1 B17
  go_wp2_with fail
  go_ret
  exact ⟨rfl, B18.out⟩
end Go.Proofs.YtfaledeidjmooaaGreat
