/-
  What plus does. Conditions: those that each theorem names.
  What bits.Len32 and Len64 do. Conditions: those that each theorem names.
  What minus, limited and kept do. Conditions: those that each theorem names.
-/
import Derived.Test.YtkbghamkalidcaaGreatIncrease
import Derived.Lib.Strings
import Derived.Lib.Slices
import Derived.Lib.Small
import Derived.Lib.Walk
import Derived.Lib.BitFns
namespace Go.Proofs.YtkbghamkalidcaaGreat
open Go.RowKit

theorem splice_zeros (n : Nat) (xs : List Nat) : splice (Nl.zeros n) 0 xs = xs ++ Nl.zeros (n - xs.length) := by
  simp [splice, Nl.zeros]
theorem AtP.cells {p : Nat → Prop} {w : World} {a : Option Addr} {n cap : Nat} {xs : List Nat} (h : AtP p w (.slice a n cap) xs) (h0 : 0 < xs.length) : ∃ b f, a = some ⟨b, f, none⟩ ∧ p b ∧ Cells w b f xs := by
  rcases h with ⟨_, rfl⟩ | ⟨b, f, cap', h1, h2, _, _, _, h6⟩
  · simp at h0
  · simp at h1
    exact ⟨b, f, h1.1, h2, h6⟩
theorem AtP.alloc {p : Nat → Prop} {w : World} {v : Value} {xs : List Nat} (h : AtP p w v xs) (o : Obj) : AtP p (w.alloc o) v xs := h.below ((Below.refl _ _).alloc (Nat.le_refl _) o)

/-- a number, as its words -/
abbrev IsN (w : World) (v : Value) (n : Nat) : Prop := At w v (Nl.limbs n)


theorem increase_at (g n cap : Nat) (Z ys : List Nat) (vb : Value) (w : World) (hn : Z.length = n) (hr : Row w g Z) (hZ : Nl.Small Z) (hys : Nl.Small ys)
    (hb : AtP (· ≠ g) w vb ys) (hl : ys.length ≤ n) (hzl : n ≤ cap) (hcap : cap ≤ 9223372036854775807) :
    Calls Tryz.prog 228 #[.slice (some ⟨g, 0, none⟩) n cap, vb] w fun e w' => e = .returned (.tuple #[]) ∧
      ∃ Z' c, Row w' g Z' ∧ Only g w w' ∧ Z'.length = n ∧ Nl.Small Z' ∧ Nl.val Z' + 4294967296 ^ n * c = Nl.val Z + Nl.val ys := by
  subst hn
  refine (increase_any g 0 cap [] Z [] ys vb w (by simpa using hr) rfl hZ hys hb hl hzl hcap).mono ?_
  rintro e w' ⟨h0, Z', c, ⟨h1, h2⟩, h3, h4, h5⟩
  exact ⟨h0, Z', c, by simpa using h1, h2, h3, h4, h5⟩
theorem decrease_at (g n cap : Nat) (Z ys : List Nat) (vb : Value) (w : World) (hn : Z.length = n) (hr : Row w g Z) (hZ : Nl.Small Z) (hys : Nl.Small ys)
    (hb : AtP (· ≠ g) w vb ys) (hl : ys.length ≤ n) (hzl : n ≤ cap) (hcap : cap ≤ 9223372036854775807) :
    Calls Tryz.prog 231 #[.slice (some ⟨g, 0, none⟩) n cap, vb] w fun e w' => e = .returned (.tuple #[]) ∧
      ∃ Z' c, Row w' g Z' ∧ Only g w w' ∧ Z'.length = n ∧ Nl.Small Z' ∧ Nl.val Z' + Nl.val ys = Nl.val Z + 4294967296 ^ n * c := by
  subst hn
  refine (decrease_any g 0 cap [] Z [] ys vb w (by simpa using hr) rfl hZ hys hb hl hzl hcap).mono ?_
  rintro e w' ⟨h0, Z', c, ⟨h1, h2⟩, h3, h4, h5⟩
  exact ⟨h0, Z', c, by simpa using h1, h2, h3, h4, h5⟩
/-- what lies at the head of a block, trimmed -/
theorem trimmed_row (g n : Nat) (L : List Nat) (w : World) (hn : L.length = n) (hr : Row w g L) (hm : n ≤ 9223372036854775807) :
    Calls Tryz.prog 216 #[.slice (some ⟨g, 0, none⟩) n n] w fun e w' => e = .returned (.slice (some ⟨g, 0, none⟩) (Nl.trim L).length n) ∧ w = w' := by
  subst hn
  exact trimmed_cells g 0 _ L w (hr.cells fun i hi => ⟨by omega, by simp⟩) (Nat.le_refl _) hm
/-- a block that the call made, trimmed, is a number -/
theorem Own.num {base : Nat} {w : World} {g n k : Nat} {L : List Nat} (hb : base ≤ g) (hr : Row w g L) (hn : L.length = n) (hl : n ≤ 9223372036854775807) (hs : Nl.Small L) (hk : Nl.val L = k) :
    Own base w (.slice (some ⟨g, 0, none⟩) (Nl.trim L).length n) (Nl.limbs k) := by
  subst hn; subst hk
  rw [← Nl.trim_eq hs]
  exact Own.trim hb hr hl
theorem carry_none {a b c M S : Nat} (hv : a + M * c = b) (hb : b < M) (_hS : S = M) : a = b := by
  rcases Nat.eq_zero_or_pos c with rfl | hc
  · simpa using hv
  · have : M * 1 ≤ M * c := Nat.mul_le_mul_left M hc
    omega

set_option maxHeartbeats 1000000 in
theorem plus_any (va vb : Value) (m n : Nat) (w : World) (ha : IsN w va m) (hb : IsN w vb n) (hla : (Nl.limbs m).length ≤ 1000000) (hlb : (Nl.limbs n).length ≤ 1000000) :
    Calls Tryz.prog 192 #[va, vb] w fun e w' => (∃ v, e = .returned v ∧ IsN w' v (m + n)) ∧ Below w.heap.size w w' := by
  have HA := Lib.hid ha
  have HB := Lib.hid hb
  obtain ⟨a, ca, rfl, -⟩ := ha.form
  obtain ⟨b, cb, rfl, -⟩ := hb.form
  clear ha hb
  by_cases hlt : (Nl.limbs m).length < (Nl.limbs n).length
  · have hmk := make_words 183 Tryz.underlying183 w ((Nl.limbs n).length + 1) ((Nl.limbs n).length + 1) (by omega) (by omega)
    by_cases hz : (Nl.limbs m).length = 0
    · have e0 : (((Nl.limbs m).length : Int) == 0) = true := by simp [hz]
      have HZ := Lib.hid hz
      clear hz hmk
      go_enter Tryz.func192, Tryz.ntmps192
      go_wp2_with fail
      go_ret
      refine ⟨⟨_, rfl, ?_⟩, Below.refl _ _⟩
      rw [Nl.len_zero HZ.out, Nat.zero_add]
      exact HB.out
    · have e0 : (((Nl.limbs m).length : Int) == 0) = false := by rw [beq_eq_false_iff_ne]; omega
      clear hz
      go_enter Tryz.func192, Tryz.ntmps192
      go_wp2_with (with_reducible refine wp_copy rfl (.tmp 21) (.tmp 22) 183 183 rfl Tryz.underlying183 _ _ _ _ _ _ rfl rfl w.heap.size 0 (Nl.zeros ((Nl.limbs n).length + 1)) (Nl.limbs n) (row_new w _) ?_ ?_ ?_ w.heap.size w ?_ ?_ ?_)
      · exact (Nat.min_eq_left (by omega)).symm
      · intro h0
        obtain ⟨b', f', h1, -, h2⟩ := (HB.out.alloc _).cells h0
        exact ⟨b', f', h1, h2⟩
      · rw [Nl.zeros_length]; omega
      · exact (Below.refl _ _).alloc (Nat.le_refl _) _
      · exact Nat.le_refl _
      intro w1 hr1 hb1
      rw [splice_zeros] at hr1
      obtain ⟨Z, hZ⟩ : ∃ Z, Z = Nl.limbs n ++ Nl.zeros ((Nl.limbs n).length + 1 - (Nl.limbs n).length) := ⟨_, rfl⟩
      rw [← hZ] at hr1
      have hZl : Z.length = (Nl.limbs n).length + 1 := by rw [hZ, List.length_append, Nl.zeros_length]; omega
      have hZs : Nl.Small Z := by rw [hZ]; exact Nl.small_pad (Nl.limbs_small _) _
      have hZv : Nl.val Z = n := by rw [hZ, Nl.val_pad, Nl.val_limbs]
      have HL := Lib.hid hZl
      have HV := Lib.hid hZv
      clear hZ hZl hZv hmk
      go_wp2_with fail
      have hop : AtP (· ≠ w.heap.size) w1 (.slice a (Nl.limbs m).length ca) (Nl.limbs m) := ((HA.out.mono fun b hb _ => (Nat.ne_of_lt hb : b ≠ w.heap.size)).below hb1)
      refine (increase_at w.heap.size _ _ Z (Nl.limbs m) _ w1 HL.out hr1.out hZs (Nl.limbs_small _) hop (by omega) (Nat.le_refl _) (by omega)).mono ?_
      rintro e w2 ⟨rfl, Z', c, hr2, ho2, hl2, hs2, hv2⟩
      have HL2 := Lib.hid hl2
      have HV2 := Lib.hid hv2
      clear hl2 hv2
      go_wp2_with fail
      refine (trimmed_row _ _ Z' w2 HL2.out hr2 (by omega)).mono ?_
      rintro e w3 ⟨rfl, rfl⟩
      go_wp2_with fail
      go_ret
      have hb2 := below_of_only hb1 ho2 (Nat.le_refl _) hb1.size
      refine ⟨⟨_, rfl, (Own.num (k := m + n) (Nat.le_refl _) hr2 HL2.out (by omega) hs2 ?_).at.at⟩, hb2⟩
      have h1 := HV2.out
      rw [HV.out, Nl.val_limbs] at h1
      have h2 := Nl.lt_limbs n
      have h3 := Nl.lt_limbs m
      have h4 : 4294967296 ^ (Nl.limbs m).length ≤ 4294967296 ^ (Nl.limbs n).length := Nl.pow_le (by omega)
      have h5 := carry_none h1 (by rw [Nat.pow_succ]; omega) rfl
      omega
  · have hmk := make_words 183 Tryz.underlying183 w ((Nl.limbs m).length + 1) ((Nl.limbs m).length + 1) (by omega) (by omega)
    by_cases hz : (Nl.limbs n).length = 0
    · have e0 : (((Nl.limbs n).length : Int) == 0) = true := by simp [hz]
      have HZ := Lib.hid hz
      clear hz hmk
      go_enter Tryz.func192, Tryz.ntmps192
      go_wp2_with fail
      go_ret
      refine ⟨⟨_, rfl, ?_⟩, Below.refl _ _⟩
      rw [Nl.len_zero HZ.out, Nat.add_zero]
      exact HA.out
    · have e0 : (((Nl.limbs n).length : Int) == 0) = false := by rw [beq_eq_false_iff_ne]; omega
      clear hz
      go_enter Tryz.func192, Tryz.ntmps192
      go_wp2_with (with_reducible refine wp_copy rfl (.tmp 21) (.tmp 22) 183 183 rfl Tryz.underlying183 _ _ _ _ _ _ rfl rfl w.heap.size 0 (Nl.zeros ((Nl.limbs m).length + 1)) (Nl.limbs m) (row_new w _) ?_ ?_ ?_ w.heap.size w ?_ ?_ ?_)
      · exact (Nat.min_eq_left (by omega)).symm
      · intro h0
        obtain ⟨b', f', h1, -, h2⟩ := (HA.out.alloc _).cells h0
        exact ⟨b', f', h1, h2⟩
      · rw [Nl.zeros_length]; omega
      · exact (Below.refl _ _).alloc (Nat.le_refl _) _
      · exact Nat.le_refl _
      intro w1 hr1 hb1
      rw [splice_zeros] at hr1
      obtain ⟨Z, hZ⟩ : ∃ Z, Z = Nl.limbs m ++ Nl.zeros ((Nl.limbs m).length + 1 - (Nl.limbs m).length) := ⟨_, rfl⟩
      rw [← hZ] at hr1
      have hZl : Z.length = (Nl.limbs m).length + 1 := by rw [hZ, List.length_append, Nl.zeros_length]; omega
      have hZs : Nl.Small Z := by rw [hZ]; exact Nl.small_pad (Nl.limbs_small _) _
      have hZv : Nl.val Z = m := by rw [hZ, Nl.val_pad, Nl.val_limbs]
      have HL := Lib.hid hZl
      have HV := Lib.hid hZv
      clear hZ hZl hZv hmk
      go_wp2_with fail
      have hop : AtP (· ≠ w.heap.size) w1 (.slice b (Nl.limbs n).length cb) (Nl.limbs n) := ((HB.out.mono fun b hb _ => (Nat.ne_of_lt hb : b ≠ w.heap.size)).below hb1)
      refine (increase_at w.heap.size _ _ Z (Nl.limbs n) _ w1 HL.out hr1.out hZs (Nl.limbs_small _) hop (by omega) (Nat.le_refl _) (by omega)).mono ?_
      rintro e w2 ⟨rfl, Z', c, hr2, ho2, hl2, hs2, hv2⟩
      have HL2 := Lib.hid hl2
      have HV2 := Lib.hid hv2
      clear hl2 hv2
      go_wp2_with fail
      refine (trimmed_row _ _ Z' w2 HL2.out hr2 (by omega)).mono ?_
      rintro e w3 ⟨rfl, rfl⟩
      go_wp2_with fail
      go_ret
      have hb2 := below_of_only hb1 ho2 (Nat.le_refl _) hb1.size
      refine ⟨⟨_, rfl, (Own.num (k := m + n) (Nat.le_refl _) hr2 HL2.out (by omega) hs2 ?_).at.at⟩, hb2⟩
      have h1 := HV2.out
      rw [HV.out, Nl.val_limbs] at h1
      have h2 := Nl.lt_limbs m
      have h3 := Nl.lt_limbs n
      have h4 : 4294967296 ^ (Nl.limbs n).length ≤ 4294967296 ^ (Nl.limbs m).length := Nl.pow_le (by omega)
      have h5 := carry_none h1 (by rw [Nat.pow_succ]; omega) rfl
      omega
end Go.Proofs.YtkbghamkalidcaaGreat

namespace Go.Proofs.YtkbghamkalidcaaGreat
open Go.RowKit
theorem index_len8 (i : Int) (h0 : 0 ≤ i) (h1 : i ≤ 255) (w : World) : (Instr.index 9 (.string Lib.len8tab) (.int .u8 i)).run Tryz.prog w = .ok (.int .u8 (Lib.len8 i)) w :=
  Lib.run_index_len8tab w 9 .u8 i Tryz.underlying9 h0 h1
theorem bitLen8 (i : Int) (h0 : 0 ≤ i) (h1 : i ≤ 255) : Lib.len8 i = (Lib.bitLen i.toNat : Int) ∧ Lib.bitLen i.toNat ≤ 8 := ⟨Lib.len8_of i h0 h1, Lib.bitLen_le8' i h0 h1⟩
set_option maxHeartbeats 4000000 in
set_option maxRecDepth 100000 in
theorem len32 (x : Int) (w : World) (h0 : 0 ≤ x) (h1 : x ≤ 4294967295) :
    Calls Tryz.prog 222 #[.int .u32 x] w fun e w' => e = .returned (.int .i64 (Lib.bitLen x.toNat)) ∧ w = w' := by
  by_cases c0 : x < 256
  · have hi := index_len8 (x) (by omega) (by omega)
    have hl := bitLen8 (x) (by omega) (by omega)
    have HL := Lib.hid hl
    clear hl
    go_enter Tryz.func222, Tryz.ntmps222
    go_wp2
    go_ret
    refine ⟨ret_int ?_, rfl⟩
    obtain ⟨l1, l2⟩ := HL.out
    clear hi
    rw [l1]
    unfold wrap64
    omega
  by_cases c1 : x < 65536
  · have hi := index_len8 (x / 256) (by omega) (by omega)
    have hl := bitLen8 (x / 256) (by omega) (by omega)
    have hs := Lib.bitLen_shift8 x.toNat (by omega) (by omega)
    have hq : (x / 256).toNat = x.toNat / 256 := by omega
    rw [hq] at hl
    have HS := Lib.hid hs
    have HL := Lib.hid hl
    clear hl hs hq
    go_enter Tryz.func222, Tryz.ntmps222
    go_wp2
    go_ret
    refine ⟨ret_int ?_, rfl⟩
    obtain ⟨l1, l2⟩ := HL.out
    have hs := HS.out
    clear hi
    rw [l1, hs]
    unfold wrap64
    omega
  by_cases c2 : x < 16777216
  · have hi := index_len8 (x / 65536) (by omega) (by omega)
    have hl := bitLen8 (x / 65536) (by omega) (by omega)
    have hs := Lib.bitLen_shift16 x.toNat (by omega) (by omega)
    have hq : (x / 65536).toNat = x.toNat / 65536 := by omega
    rw [hq] at hl
    have HS := Lib.hid hs
    have HL := Lib.hid hl
    clear hl hs hq
    go_enter Tryz.func222, Tryz.ntmps222
    go_wp2
    go_ret
    refine ⟨ret_int ?_, rfl⟩
    obtain ⟨l1, l2⟩ := HL.out
    have hs := HS.out
    clear hi
    rw [l1, hs]
    unfold wrap64
    omega
  · have hi := index_len8 (x / 65536 / 256) (by omega) (by omega)
    have hl := bitLen8 (x / 65536 / 256) (by omega) (by omega)
    have hs := Lib.bitLen_shift24 x.toNat (by omega) (by omega)
    have hq : (x / 65536 / 256).toNat = x.toNat / 16777216 := by omega
    rw [hq] at hl
    have HS := Lib.hid hs
    have HL := Lib.hid hl
    clear hl hs hq
    go_enter Tryz.func222, Tryz.ntmps222
    go_wp2
    go_ret
    refine ⟨ret_int ?_, rfl⟩
    obtain ⟨l1, l2⟩ := HL.out
    have hs := HS.out
    clear hi
    rw [l1, hs]
    unfold wrap64
    omega
theorem bitLen_bounds (x : Nat) (hx : x < 18446744073709551616) (h0 : x ≠ 0) : 0 < Lib.bitLen x ∧ 2 ^ (Lib.bitLen x - 1) ≤ x ∧ x < 2 ^ Lib.bitLen x := by
  induction x using Nat.strongRecOn with
  | ind x ih =>
    have hh := Lib.bitLen_half x h0 hx
    by_cases h1 : x / 2 = 0
    · have : x = 1 := by omega
      subst this
      exact ⟨by decide, by decide, by decide⟩
    · obtain ⟨i0, i1, i2⟩ := ih (x / 2) (by omega) (by omega) h1
      rw [hh]
      obtain ⟨k, hk⟩ : ∃ k, Lib.bitLen (x / 2) = k + 1 := ⟨Lib.bitLen (x / 2) - 1, by omega⟩
      rw [hk] at i1 i2 ⊢
      rw [show 1 + (k + 1) - 1 = k + 1 from by omega, show 1 + (k + 1) = (k + 1) + 1 from by omega]
      rw [show k + 1 - 1 = k from by omega] at i1
      rw [Nat.pow_succ 2 (k + 1), Nat.pow_succ]
      rw [Nat.pow_succ] at i2
      exact ⟨by omega, by omega, by omega⟩
/-- how many bits a number has -/
def nbits (m : Nat) : Nat := if m = 0 then 0 else Nat.log2 m + 1
theorem nbits_zero : nbits 0 = 0 := rfl
theorem nbits_of {m b : Nat} (h1 : 2 ^ b ≤ m) (h2 : m < 2 ^ (b + 1)) : nbits m = b + 1 := by
  have h0 : m ≠ 0 := by
    have := Nat.two_pow_pos b
    omega
  unfold nbits
  rw [if_neg h0]
  have a := (Nat.le_log2 h0).2 h1
  have c := (Nat.log2_lt h0).2 h2
  omega
theorem lt_nbits (m : Nat) : m < 2 ^ nbits m := by
  unfold nbits
  by_cases h : m = 0
  · subst h; simp
  · rw [if_neg h]; exact (Nat.log2_lt h).1 (Nat.lt_succ_self _)
theorem nbits_le {m : Nat} (h : m ≠ 0) : 2 ^ (nbits m - 1) ≤ m := by
  unfold nbits
  rw [if_neg h]; exact (Nat.le_log2 h).1 (by omega)
theorem nbits_pos {m : Nat} (h : m ≠ 0) : 0 < nbits m := by unfold nbits; rw [if_neg h]; omega

theorem pow32 (k : Nat) : 4294967296 ^ k = 2 ^ (32 * k) := by rw [show 4294967296 = 2 ^ 32 from rfl, ← Nat.pow_mul]
theorem nbits_limbs {m : Nat} (h : m ≠ 0) : nbits m = 32 * ((Nl.limbs m).length - 1) + Lib.bitLen ((Nl.limbs m).getD ((Nl.limbs m).length - 1) 0) ∧ (Nl.limbs m).getD ((Nl.limbs m).length - 1) 0 ≠ 0 := by
  have hl := Nl.len_pos h
  obtain ⟨k, hk⟩ : ∃ k, (Nl.limbs m).length = k + 1 := ⟨(Nl.limbs m).length - 1, by omega⟩
  have h1 := Nl.val_take_succ (Nl.limbs m) k (by omega)
  rw [Nl.val_take_all (by omega), Nl.val_limbs] at h1
  have h2 := Nl.val_lt ((Nl.limbs_small m).take k)
  rw [List.length_take, Nat.min_eq_left (by omega)] at h2
  have hx := (Nl.limbs_small m).getD k
  have h3 := Nl.limbs_le h
  rw [hk] at h3 ⊢
  rw [show k + 1 - 1 = k from by omega] at h3 ⊢
  obtain ⟨x, ex⟩ : ∃ x, (Nl.limbs m).getD k 0 = x := ⟨_, rfl⟩
  obtain ⟨y, ey⟩ : ∃ y, Nl.val ((Nl.limbs m).take k) = y := ⟨_, rfl⟩
  rw [ex] at h1 hx ⊢
  rw [ey] at h1 h2
  have hx0 : x ≠ 0 := by
    rintro rfl
    omega
  refine ⟨?_, hx0⟩
  obtain ⟨b0, b1, b2⟩ := bitLen_bounds x (by omega) hx0
  obtain ⟨b, hb⟩ : ∃ b, Lib.bitLen x = b + 1 := ⟨Lib.bitLen x - 1, by omega⟩
  rw [hb] at b1 b2 ⊢
  rw [show b + 1 - 1 = b from by omega] at b1
  rw [← Nat.add_assoc]
  apply nbits_of
  · rw [Nat.pow_add, ← pow32, h1]
    have := Nat.mul_le_mul_left (4294967296 ^ k) b1
    omega
  · rw [Nat.add_assoc, Nat.pow_add, ← pow32, h1]
    have : 4294967296 ^ k * (x + 1) ≤ 4294967296 ^ k * 2 ^ (b + 1) := Nat.mul_le_mul_left _ b2
    rw [Nat.mul_add] at this
    omega
end Go.Proofs.YtkbghamkalidcaaGreat

namespace Go.Proofs.YtkbghamkalidcaaGreat
open Go.RowKit

set_option maxHeartbeats 1000000 in
theorem minus_any (va vb : Value) (m n : Nat) (w : World) (ha : IsN w va m) (hb : IsN w vb n) (hla : (Nl.limbs m).length ≤ 1000000) (hle : n ≤ m) :
    Calls Tryz.prog 195 #[va, vb] w fun e w' => (∃ v, e = .returned v ∧ IsN w' v (m - n)) ∧ Below w.heap.size w w' := by
  have hlb : (Nl.limbs n).length ≤ (Nl.limbs m).length := Nl.limbs_mono hle
  have HA := Lib.hid ha
  have HB := Lib.hid hb
  obtain ⟨a, ca, rfl, -⟩ := ha.form
  obtain ⟨b, cb, rfl, -⟩ := hb.form
  clear ha hb
  have hmk := make_words 183 Tryz.underlying183 w ((Nl.limbs m).length) ((Nl.limbs m).length) (by omega) (by omega)
  by_cases hz : (Nl.limbs n).length = 0
  · have e0 : (((Nl.limbs n).length : Int) == 0) = true := by simp [hz]
    have HZ := Lib.hid hz
    clear hz hmk
    go_enter Tryz.func195, Tryz.ntmps195
    go_wp2_with fail
    go_ret
    refine ⟨⟨_, rfl, ?_⟩, Below.refl _ _⟩
    rw [Nl.len_zero HZ.out, Nat.sub_zero]
    exact HA.out
  · have e0 : (((Nl.limbs n).length : Int) == 0) = false := by rw [beq_eq_false_iff_ne]; omega
    clear hz
    go_enter Tryz.func195, Tryz.ntmps195
    go_wp2_with (with_reducible refine wp_copy rfl (.tmp 13) (.tmp 14) 183 183 rfl Tryz.underlying183 _ _ _ _ _ _ rfl rfl w.heap.size 0 (Nl.zeros ((Nl.limbs m).length)) (Nl.limbs m) (row_new w _) ?_ ?_ ?_ w.heap.size w ?_ ?_ ?_)
    · exact (Nat.min_eq_left (by omega)).symm
    · intro h0
      obtain ⟨b', f', h1, -, h2⟩ := (HA.out.alloc _).cells h0
      exact ⟨b', f', h1, h2⟩
    · rw [Nl.zeros_length]; omega
    · exact (Below.refl _ _).alloc (Nat.le_refl _) _
    · exact Nat.le_refl _
    intro w1 hr1 hb1
    rw [splice_zeros, Nat.sub_self, show Nl.zeros 0 = [] from rfl, List.append_nil] at hr1
    clear hmk
    go_wp2_with fail
    have hop : AtP (· ≠ w.heap.size) w1 (.slice b (Nl.limbs n).length cb) (Nl.limbs n) := ((HB.out.mono fun b hb _ => (Nat.ne_of_lt hb : b ≠ w.heap.size)).below hb1)
    refine (decrease_at w.heap.size _ _ (Nl.limbs m) (Nl.limbs n) _ w1 rfl hr1.out (Nl.limbs_small _) (Nl.limbs_small _) hop (by omega) (Nat.le_refl _) (by omega)).mono ?_
    rintro e w2 ⟨rfl, Z', c, hr2, ho2, hl2, hs2, hv2⟩
    have HL2 := Lib.hid hl2
    have HV2 := Lib.hid hv2
    clear hl2 hv2
    go_wp2_with fail
    refine (trimmed_row _ _ Z' w2 HL2.out hr2 (by omega)).mono ?_
    rintro e w3 ⟨rfl, rfl⟩
    go_wp2_with fail
    go_ret
    have hb2 := below_of_only hb1 ho2 (Nat.le_refl _) hb1.size
    refine ⟨⟨_, rfl, (Own.num (k := m - n) (Nat.le_refl _) hr2 HL2.out (by omega) hs2 ?_).at.at⟩, hb2⟩
    have h1 := HV2.out
    rw [Nl.val_limbs, Nl.val_limbs] at h1
    have h2 := Nl.val_lt hs2
    rw [HL2.out] at h2
    rcases Nat.eq_zero_or_pos c with rfl | hc
    · omega
    · have h3 : 4294967296 ^ (Nl.limbs m).length * 1 ≤ 4294967296 ^ (Nl.limbs m).length * c := Nat.mul_le_mul_left _ hc
      omega

theorem limited_yes (v : Value) (m : Nat) (w : World) (h : IsN w v m) (hl : (Nl.limbs m).length ≤ 1024) :
    Calls Tryz.prog 217 #[v] w fun e w' => e = .returned v ∧ w = w' := by
  obtain ⟨a, ca, rfl, -⟩ := h.form
  clear h
  have hl' : decide (((Nl.limbs m).length : Int) ≤ 1024) = true := by simp; omega
  go_enter Tryz.func217, Tryz.ntmps217
  go_wp2_with (go_at_call 55; refine (must_yes _ _).mono ?_; rintro e w' ⟨rfl, rfl⟩)
  go_ret
  exact ⟨rfl, rfl⟩
theorem limited_no (v : Value) (m : Nat) (w : World) (h : IsN w v m) (hl : 1024 < (Nl.limbs m).length) :
    Calls Tryz.prog 217 #[v] w fun e w' => e = .panicked [{ v := .iface 177 (.agg #[.int .i64 2, .int .i64 0]), recovered := false }] ∧ w = w' := by
  obtain ⟨a, ca, rfl, -⟩ := h.form
  clear h
  have hl' : decide (((Nl.limbs m).length : Int) ≤ 1024) = false := by simp; omega
  go_enter Tryz.func217, Tryz.ntmps217
  go_wp2_with (go_at_call 55; refine (must_no _ _).mono ?_; rintro e w' ⟨rfl, rfl⟩)
  exact ⟨rfl, rfl, rfl⟩

set_option maxHeartbeats 1000000 in
theorem kept_yes (va : Value) (m : Nat) (w : World) (ha : IsN w va m) (hl : (Nl.limbs m).length ≤ 1024) :
    Calls Tryz.prog 164 #[va] w fun e w' => (∃ v, e = .returned v ∧ Own w.heap.size w' v (Nl.limbs m)) ∧ Below w.heap.size w w' := by
  have HA := Lib.hid ha
  obtain ⟨a, ca, rfl, -⟩ := ha.form
  clear ha
  have hmk := make_words 23 Tryz.underlying23 w ((Nl.limbs m).length) ((Nl.limbs m).length) (by omega) (by omega)
  by_cases hz : (Nl.limbs m).length = 0
  · have e0 : (((Nl.limbs m).length : Int) == 0) = true := by simp [hz]
    have HZ := Lib.hid hz
    clear hz hmk
    go_enter Tryz.func164, Tryz.ntmps164
    go_wp2_with fail
    refine (limited_yes _ m _ HA.out (by omega)).mono ?_
    rintro e w' ⟨rfl, rfl⟩
    go_wp2_with fail
    go_ret
    refine ⟨⟨_, rfl, ?_⟩, Below.refl _ _⟩
    rw [Nl.len_zero HZ.out, Nl.limbs_zero]
    exact .inl ⟨rfl, rfl⟩
  · have e0 : (((Nl.limbs m).length : Int) == 0) = false := by rw [beq_eq_false_iff_ne]; omega
    clear hz
    go_enter Tryz.func164, Tryz.ntmps164
    go_wp2_with fail
    refine (limited_yes _ m _ HA.out (by omega)).mono ?_
    rintro e w' ⟨rfl, rfl⟩
    go_wp2_with (with_reducible refine wp_copy rfl (.tmp 11) (.tmp 12) 23 183 rfl Tryz.underlying23 _ _ _ _ _ _ rfl rfl w.heap.size 0 (Nl.zeros ((Nl.limbs m).length)) (Nl.limbs m) (row_new w _) ?_ ?_ ?_ w.heap.size w ?_ ?_ ?_)
    · exact (Nat.min_eq_left (by omega)).symm
    · intro h0
      obtain ⟨b', f', h1, -, h2⟩ := (HA.out.alloc _).cells h0
      exact ⟨b', f', h1, h2⟩
    · rw [Nl.zeros_length]; omega
    · exact (Below.refl _ _).alloc (Nat.le_refl _) _
    · exact Nat.le_refl _
    intro w1 hr1 hb1
    rw [splice_zeros, Nat.sub_self, show Nl.zeros 0 = [] from rfl, List.append_nil] at hr1
    clear hmk
    go_wp2_with fail
    go_ret
    exact ⟨⟨_, rfl, .inr ⟨_, _, rfl, Nat.le_refl _, hr1.out, List.take_of_length_le (Nat.le_refl _), Nat.le_refl _, by omega⟩⟩, hb1⟩
theorem kept_no (v : Value) (m : Nat) (w : World) (h : IsN w v m) (hl : 1024 < (Nl.limbs m).length) :
    Calls Tryz.prog 164 #[v] w fun e w' => e = .panicked [{ v := .iface 177 (.agg #[.int .i64 2, .int .i64 0]), recovered := false }] ∧ w = w' := by
  have HA := Lib.hid h
  obtain ⟨a, ca, rfl, -⟩ := h.form
  clear h
  go_enter Tryz.func164, Tryz.ntmps164
  go_wp2_with fail
  refine (limited_no _ m _ HA.out (by omega)).mono ?_
  rintro e w' ⟨rfl, rfl⟩
  exact ⟨rfl, rfl, rfl⟩
end Go.Proofs.YtkbghamkalidcaaGreat
