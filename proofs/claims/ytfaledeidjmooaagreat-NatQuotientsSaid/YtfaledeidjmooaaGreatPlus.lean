/-
  What plus does. Conditions: those that each theorem names.
-/
import Derived.Test.YtfaledeidjmooaaGreatIncrease
namespace Go.Proofs.YtfaledeidjmooaaGreat
open Go.RowKit

theorem splice_zeros (n : Nat) (xs : List Nat) : splice (Nl.zeros n) 0 xs = xs ++ Nl.zeros (n - xs.length) := by
  simp [splice, Nl.zeros]
theorem AtP.cells {p : Nat → Prop} {w : World} {a : Option Addr} {n cap : Nat} {xs : List Nat} (h : AtP p w (.slice a n cap) xs) (h0 : 0 < xs.length) : ∃ b f, a = some ⟨b, f, none⟩ ∧ p b ∧ Cells w b f xs := by
  rcases h with ⟨_, rfl⟩ | ⟨b, f, cap', h1, h2, _, _, _, h6⟩
  · simp at h0
  · simp at h1
    exact ⟨b, f, h1.1, h2, h6⟩
theorem AtP.alloc {p : Nat → Prop} {w : World} {v : Value} {xs : List Nat} (h : AtP p w v xs) (o : Obj) : AtP p (w.alloc o) v xs := h.below ((Below.refl _ _).alloc (Nat.le_refl _) o)

/-- a number, as its words -/
abbrev IsN (w : World) (v : Value) (n : Nat) : Prop := At w v (Nl.limbs n)


theorem increase_at (g n cap : Nat) (Z ys : List Nat) (vb : Value) (w : World) (hn : Z.length = n) (hr : Row w g Z) (hZ : Nl.Small Z) (hys : Nl.Small ys)
    (hb : AtP (· ≠ g) w vb ys) (hl : ys.length ≤ n) (hzl : n ≤ cap) (hcap : cap ≤ 9223372036854775807) :
    Calls Tryz.prog 95 #[.slice (some ⟨g, 0, none⟩) n cap, vb] w fun e w' => e = .returned (.tuple #[]) ∧
      ∃ Z' c, Row w' g Z' ∧ Only g w w' ∧ Z'.length = n ∧ Nl.Small Z' ∧ Nl.val Z' + 4294967296 ^ n * c = Nl.val Z + Nl.val ys := by
  subst hn
  refine (increase_any g 0 cap [] Z [] ys vb w (by simpa using hr) rfl hZ hys hb hl hzl hcap).mono ?_
  rintro e w' ⟨h0, Z', c, ⟨h1, h2⟩, h3, h4, h5⟩
  exact ⟨h0, Z', c, by simpa using h1, h2, h3, h4, h5⟩
theorem decrease_at (g n cap : Nat) (Z ys : List Nat) (vb : Value) (w : World) (hn : Z.length = n) (hr : Row w g Z) (hZ : Nl.Small Z) (hys : Nl.Small ys)
    (hb : AtP (· ≠ g) w vb ys) (hl : ys.length ≤ n) (hzl : n ≤ cap) (hcap : cap ≤ 9223372036854775807) :
    Calls Tryz.prog 100 #[.slice (some ⟨g, 0, none⟩) n cap, vb] w fun e w' => e = .returned (.tuple #[]) ∧
      ∃ Z' c, Row w' g Z' ∧ Only g w w' ∧ Z'.length = n ∧ Nl.Small Z' ∧ Nl.val Z' + Nl.val ys = Nl.val Z + 4294967296 ^ n * c := by
  subst hn
  refine (decrease_any g 0 cap [] Z [] ys vb w (by simpa using hr) rfl hZ hys hb hl hzl hcap).mono ?_
  rintro e w' ⟨h0, Z', c, ⟨h1, h2⟩, h3, h4, h5⟩
  exact ⟨h0, Z', c, by simpa using h1, h2, h3, h4, h5⟩
/-- what lies at the head of a block, trimmed -/
theorem trimmed_row (g n : Nat) (L : List Nat) (w : World) (hn : L.length = n) (hr : Row w g L) (hm : n ≤ 9223372036854775807) :
    Calls Tryz.prog 96 #[.slice (some ⟨g, 0, none⟩) n n] w fun e w' => e = .returned (.slice (some ⟨g, 0, none⟩) (Nl.trim L).length n) ∧ w = w' := by
  subst hn
  exact trimmed_cells g 0 _ L w (hr.cells fun i hi => ⟨by omega, by simp⟩) (Nat.le_refl _) hm
/-- a block that the call made, trimmed, is a number -/
theorem Own.num {base : Nat} {w : World} {g n k : Nat} {L : List Nat} (hb : base ≤ g) (hr : Row w g L) (hn : L.length = n) (hl : n ≤ 9223372036854775807) (hs : Nl.Small L) (hk : Nl.val L = k) :
    Own base w (.slice (some ⟨g, 0, none⟩) (Nl.trim L).length n) (Nl.limbs k) := by
  subst hn; subst hk
  rw [← Nl.trim_eq hs]
  exact Own.trim hb hr hl
theorem carry_none {a b c M S : Nat} (hv : a + M * c = b) (hb : b < M) (_hS : S = M) : a = b := by
  rcases Nat.eq_zero_or_pos c with rfl | hc
  · simpa using hv
  · have : M * 1 ≤ M * c := Nat.mul_le_mul_left M hc
    omega

set_option maxHeartbeats 1000000 in
theorem plus_any (va vb : Value) (m n : Nat) (w : World) (ha : IsN w va m) (hb : IsN w vb n) (hla : (Nl.limbs m).length ≤ 1000000) (hlb : (Nl.limbs n).length ≤ 1000000) :
    Calls Tryz.prog 59 #[va, vb] w fun e w' => (∃ v, e = .returned v ∧ IsN w' v (m + n)) ∧ Below w.heap.size w w' := by
  have HA := Lib.hid ha
  have HB := Lib.hid hb
  obtain ⟨a, ca, rfl, -⟩ := ha.form
  obtain ⟨b, cb, rfl, -⟩ := hb.form
  clear ha hb
  by_cases hlt : (Nl.limbs m).length < (Nl.limbs n).length
  · have hmk := make_words 69 Tryz.underlying69 w ((Nl.limbs n).length + 1) ((Nl.limbs n).length + 1) (by omega) (by omega)
    by_cases hz : (Nl.limbs m).length = 0
    · have e0 : (((Nl.limbs m).length : Int) == 0) = true := by simp [hz]
      have HZ := Lib.hid hz
      clear hz hmk
      go_enter Tryz.func59, Tryz.ntmps59
      go_wp2_with fail
      go_ret
      refine ⟨⟨_, rfl, ?_⟩, Below.refl _ _⟩
      rw [Nl.len_zero HZ.out, Nat.zero_add]
      exact HB.out
    · have e0 : (((Nl.limbs m).length : Int) == 0) = false := by rw [beq_eq_false_iff_ne]; omega
      clear hz
      go_enter Tryz.func59, Tryz.ntmps59
      go_wp2_with (with_reducible refine wp_copy rfl (.tmp 21) (.tmp 22) 69 69 rfl Tryz.underlying69 _ _ _ _ _ _ rfl rfl w.heap.size 0 (Nl.zeros ((Nl.limbs n).length + 1)) (Nl.limbs n) (row_new w _) ?_ ?_ ?_ w.heap.size w ?_ ?_ ?_)
      · exact (Nat.min_eq_left (by omega)).symm
      · intro h0
        obtain ⟨b', f', h1, -, h2⟩ := (HB.out.alloc _).cells h0
        exact ⟨b', f', h1, h2⟩
      · rw [Nl.zeros_length]; omega
      · exact (Below.refl _ _).alloc (Nat.le_refl _) _
      · exact Nat.le_refl _
      intro w1 hr1 hb1
      rw [splice_zeros] at hr1
      obtain ⟨Z, hZ⟩ : ∃ Z, Z = Nl.limbs n ++ Nl.zeros ((Nl.limbs n).length + 1 - (Nl.limbs n).length) := ⟨_, rfl⟩
      rw [← hZ] at hr1
      have hZl : Z.length = (Nl.limbs n).length + 1 := by rw [hZ, List.length_append, Nl.zeros_length]; omega
      have hZs : Nl.Small Z := by rw [hZ]; exact Nl.small_pad (Nl.limbs_small _) _
      have hZv : Nl.val Z = n := by rw [hZ, Nl.val_pad, Nl.val_limbs]
      have HL := Lib.hid hZl
      have HV := Lib.hid hZv
      clear hZ hZl hZv hmk
      go_wp2_with fail
      have hop : AtP (· ≠ w.heap.size) w1 (.slice a (Nl.limbs m).length ca) (Nl.limbs m) := ((HA.out.mono fun b hb _ => (Nat.ne_of_lt hb : b ≠ w.heap.size)).below hb1)
      refine (increase_at w.heap.size _ _ Z (Nl.limbs m) _ w1 HL.out hr1.out hZs (Nl.limbs_small _) hop (by omega) (Nat.le_refl _) (by omega)).mono ?_
      rintro e w2 ⟨rfl, Z', c, hr2, ho2, hl2, hs2, hv2⟩
      have HL2 := Lib.hid hl2
      have HV2 := Lib.hid hv2
      clear hl2 hv2
      go_wp2_with fail
      refine (trimmed_row _ _ Z' w2 HL2.out hr2 (by omega)).mono ?_
      rintro e w3 ⟨rfl, rfl⟩
      go_wp2_with fail
      go_ret
      have hb2 := below_of_only hb1 ho2 (Nat.le_refl _) hb1.size
      refine ⟨⟨_, rfl, (Own.num (k := m + n) (Nat.le_refl _) hr2 HL2.out (by omega) hs2 ?_).at.at⟩, hb2⟩
      have h1 := HV2.out
      rw [HV.out, Nl.val_limbs] at h1
      have h2 := Nl.lt_limbs n
      have h3 := Nl.lt_limbs m
      have h4 : 4294967296 ^ (Nl.limbs m).length ≤ 4294967296 ^ (Nl.limbs n).length := Nl.pow_le (by omega)
      have h5 := carry_none h1 (by rw [Nat.pow_succ]; omega) rfl
      omega
  · have hmk := make_words 69 Tryz.underlying69 w ((Nl.limbs m).length + 1) ((Nl.limbs m).length + 1) (by omega) (by omega)
    by_cases hz : (Nl.limbs n).length = 0
    · have e0 : (((Nl.limbs n).length : Int) == 0) = true := by simp [hz]
      have HZ := Lib.hid hz
      clear hz hmk
      go_enter Tryz.func59, Tryz.ntmps59
      go_wp2_with fail
      go_ret
      refine ⟨⟨_, rfl, ?_⟩, Below.refl _ _⟩
      rw [Nl.len_zero HZ.out, Nat.add_zero]
      exact HA.out
    · have e0 : (((Nl.limbs n).length : Int) == 0) = false := by rw [beq_eq_false_iff_ne]; omega
      clear hz
      go_enter Tryz.func59, Tryz.ntmps59
      go_wp2_with (with_reducible refine wp_copy rfl (.tmp 21) (.tmp 22) 69 69 rfl Tryz.underlying69 _ _ _ _ _ _ rfl rfl w.heap.size 0 (Nl.zeros ((Nl.limbs m).length + 1)) (Nl.limbs m) (row_new w _) ?_ ?_ ?_ w.heap.size w ?_ ?_ ?_)
      · exact (Nat.min_eq_left (by omega)).symm
      · intro h0
        obtain ⟨b', f', h1, -, h2⟩ := (HA.out.alloc _).cells h0
        exact ⟨b', f', h1, h2⟩
      · rw [Nl.zeros_length]; omega
      · exact (Below.refl _ _).alloc (Nat.le_refl _) _
      · exact Nat.le_refl _
      intro w1 hr1 hb1
      rw [splice_zeros] at hr1
      obtain ⟨Z, hZ⟩ : ∃ Z, Z = Nl.limbs m ++ Nl.zeros ((Nl.limbs m).length + 1 - (Nl.limbs m).length) := ⟨_, rfl⟩
      rw [← hZ] at hr1
      have hZl : Z.length = (Nl.limbs m).length + 1 := by rw [hZ, List.length_append, Nl.zeros_length]; omega
      have hZs : Nl.Small Z := by rw [hZ]; exact Nl.small_pad (Nl.limbs_small _) _
      have hZv : Nl.val Z = m := by rw [hZ, Nl.val_pad, Nl.val_limbs]
      have HL := Lib.hid hZl
      have HV := Lib.hid hZv
      clear hZ hZl hZv hmk
      go_wp2_with fail
      have hop : AtP (· ≠ w.heap.size) w1 (.slice b (Nl.limbs n).length cb) (Nl.limbs n) := ((HB.out.mono fun b hb _ => (Nat.ne_of_lt hb : b ≠ w.heap.size)).below hb1)
      refine (increase_at w.heap.size _ _ Z (Nl.limbs n) _ w1 HL.out hr1.out hZs (Nl.limbs_small _) hop (by omega) (Nat.le_refl _) (by omega)).mono ?_
      rintro e w2 ⟨rfl, Z', c, hr2, ho2, hl2, hs2, hv2⟩
      have HL2 := Lib.hid hl2
      have HV2 := Lib.hid hv2
      clear hl2 hv2
      go_wp2_with fail
      refine (trimmed_row _ _ Z' w2 HL2.out hr2 (by omega)).mono ?_
      rintro e w3 ⟨rfl, rfl⟩
      go_wp2_with fail
      go_ret
      have hb2 := below_of_only hb1 ho2 (Nat.le_refl _) hb1.size
      refine ⟨⟨_, rfl, (Own.num (k := m + n) (Nat.le_refl _) hr2 HL2.out (by omega) hs2 ?_).at.at⟩, hb2⟩
      have h1 := HV2.out
      rw [HV.out, Nl.val_limbs] at h1
      have h2 := Nl.lt_limbs m
      have h3 := Nl.lt_limbs n
      have h4 : 4294967296 ^ (Nl.limbs n).length ≤ 4294967296 ^ (Nl.limbs m).length := Nl.pow_le (by omega)
      have h5 := carry_none h1 (by rw [Nat.pow_succ]; omega) rfl
      omega
end Go.Proofs.YtfaledeidjmooaaGreat
