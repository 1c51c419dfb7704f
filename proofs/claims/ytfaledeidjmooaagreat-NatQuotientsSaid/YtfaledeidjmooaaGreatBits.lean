/-
  What bits.Len32 and Len64 do. Conditions: those that each theorem names.
-/
import Derived.Test.YtfaledeidjmooaaGreatPlus
import Derived.Lib.Strings
import Derived.Lib.Slices
import Derived.Lib.Small
import Derived.Lib.Walk
import Derived.Lib.BitFns
namespace Go.Proofs.YtfaledeidjmooaaGreat
open Go.RowKit
theorem index_len8 (i : Int) (h0 : 0 ≤ i) (h1 : i ≤ 255) (w : World) : (Instr.index 9 (.string Lib.len8tab) (.int .u8 i)).run Tryz.prog w = .ok (.int .u8 (Lib.len8 i)) w :=
  Lib.run_index_len8tab w 9 .u8 i Tryz.underlying9 h0 h1
theorem bitLen8 (i : Int) (h0 : 0 ≤ i) (h1 : i ≤ 255) : Lib.len8 i = (Lib.bitLen i.toNat : Int) ∧ Lib.bitLen i.toNat ≤ 8 := ⟨Lib.len8_of i h0 h1, Lib.bitLen_le8' i h0 h1⟩
set_option maxHeartbeats 4000000 in
set_option maxRecDepth 100000 in
theorem len32 (x : Int) (w : World) (h0 : 0 ≤ x) (h1 : x ≤ 4294967295) :
    Calls Tryz.prog 115 #[.int .u32 x] w fun e w' => e = .returned (.int .i64 (Lib.bitLen x.toNat)) ∧ w = w' := by
  by_cases c0 : x < 256
  · have hi := index_len8 (x) (by omega) (by omega)
    have hl := bitLen8 (x) (by omega) (by omega)
    have HL := Lib.hid hl
    clear hl
    go_enter Tryz.func115, Tryz.ntmps115
    go_wp2
    go_ret
    refine ⟨ret_int ?_, rfl⟩
    obtain ⟨l1, l2⟩ := HL.out
    clear hi
    rw [l1]
    unfold wrap64
    omega
  by_cases c1 : x < 65536
  · have hi := index_len8 (x / 256) (by omega) (by omega)
    have hl := bitLen8 (x / 256) (by omega) (by omega)
    have hs := Lib.bitLen_shift8 x.toNat (by omega) (by omega)
    have hq : (x / 256).toNat = x.toNat / 256 := by omega
    rw [hq] at hl
    have HS := Lib.hid hs
    have HL := Lib.hid hl
    clear hl hs hq
    go_enter Tryz.func115, Tryz.ntmps115
    go_wp2
    go_ret
    refine ⟨ret_int ?_, rfl⟩
    obtain ⟨l1, l2⟩ := HL.out
    have hs := HS.out
    clear hi
    rw [l1, hs]
    unfold wrap64
    omega
  by_cases c2 : x < 16777216
  · have hi := index_len8 (x / 65536) (by omega) (by omega)
    have hl := bitLen8 (x / 65536) (by omega) (by omega)
    have hs := Lib.bitLen_shift16 x.toNat (by omega) (by omega)
    have hq : (x / 65536).toNat = x.toNat / 65536 := by omega
    rw [hq] at hl
    have HS := Lib.hid hs
    have HL := Lib.hid hl
    clear hl hs hq
    go_enter Tryz.func115, Tryz.ntmps115
    go_wp2
    go_ret
    refine ⟨ret_int ?_, rfl⟩
    obtain ⟨l1, l2⟩ := HL.out
    have hs := HS.out
    clear hi
    rw [l1, hs]
    unfold wrap64
    omega
  · have hi := index_len8 (x / 65536 / 256) (by omega) (by omega)
    have hl := bitLen8 (x / 65536 / 256) (by omega) (by omega)
    have hs := Lib.bitLen_shift24 x.toNat (by omega) (by omega)
    have hq : (x / 65536 / 256).toNat = x.toNat / 16777216 := by omega
    rw [hq] at hl
    have HS := Lib.hid hs
    have HL := Lib.hid hl
    clear hl hs hq
    go_enter Tryz.func115, Tryz.ntmps115
    go_wp2
    go_ret
    refine ⟨ret_int ?_, rfl⟩
    obtain ⟨l1, l2⟩ := HL.out
    have hs := HS.out
    clear hi
    rw [l1, hs]
    unfold wrap64
    omega
set_option maxHeartbeats 4000000 in
set_option maxRecDepth 100000 in
theorem len64 (x : Int) (w : World) (h0 : 0 ≤ x) (h1 : x ≤ 18446744073709551615) :
    Calls Tryz.prog 155 #[.int .u64 x] w fun e w' => e = .returned (.int .i64 (Lib.bitLen x.toNat)) ∧ w = w' := by
  by_cases c0 : x < 256
  · have hi := index_len8 (x) (by omega) (by omega)
    have hl := bitLen8 (x) (by omega) (by omega)
    have HL := Lib.hid hl
    clear hl
    go_enter Tryz.func155, Tryz.ntmps155
    go_wp2
    go_ret
    refine ⟨ret_int ?_, rfl⟩
    obtain ⟨l1, l2⟩ := HL.out
    clear hi
    rw [l1]
    unfold wrap64
    omega
  by_cases c1 : x < 65536
  · have hi := index_len8 (x / 256) (by omega) (by omega)
    have hl := bitLen8 (x / 256) (by omega) (by omega)
    have hs := Lib.bitLen_shift8 x.toNat (by omega) (by omega)
    have hq : (x / 256).toNat = x.toNat / 256 := by omega
    rw [hq] at hl
    have HS := Lib.hid hs
    have HL := Lib.hid hl
    clear hl hs hq
    go_enter Tryz.func155, Tryz.ntmps155
    go_wp2
    go_ret
    refine ⟨ret_int ?_, rfl⟩
    obtain ⟨l1, l2⟩ := HL.out
    have hs := HS.out
    clear hi
    rw [l1, hs]
    unfold wrap64
    omega
  by_cases c2 : x < 16777216
  · have hi := index_len8 (x / 65536) (by omega) (by omega)
    have hl := bitLen8 (x / 65536) (by omega) (by omega)
    have hs := Lib.bitLen_shift16 x.toNat (by omega) (by omega)
    have hq : (x / 65536).toNat = x.toNat / 65536 := by omega
    rw [hq] at hl
    have HS := Lib.hid hs
    have HL := Lib.hid hl
    clear hl hs hq
    go_enter Tryz.func155, Tryz.ntmps155
    go_wp2
    go_ret
    refine ⟨ret_int ?_, rfl⟩
    obtain ⟨l1, l2⟩ := HL.out
    have hs := HS.out
    clear hi
    rw [l1, hs]
    unfold wrap64
    omega
  by_cases c3 : x < 4294967296
  · have hi := index_len8 (x / 65536 / 256) (by omega) (by omega)
    have hl := bitLen8 (x / 65536 / 256) (by omega) (by omega)
    have hs := Lib.bitLen_shift24 x.toNat (by omega) (by omega)
    have hq : (x / 65536 / 256).toNat = x.toNat / 16777216 := by omega
    rw [hq] at hl
    have HS := Lib.hid hs
    have HL := Lib.hid hl
    clear hl hs hq
    go_enter Tryz.func155, Tryz.ntmps155
    go_wp2
    go_ret
    refine ⟨ret_int ?_, rfl⟩
    obtain ⟨l1, l2⟩ := HL.out
    have hs := HS.out
    clear hi
    rw [l1, hs]
    unfold wrap64
    omega
  by_cases c4 : x < 1099511627776
  · have hi := index_len8 (x / 4294967296) (by omega) (by omega)
    have hl := bitLen8 (x / 4294967296) (by omega) (by omega)
    have hs := Lib.bitLen_shift32 x.toNat (by omega) (by omega)
    have hq : (x / 4294967296).toNat = x.toNat / 4294967296 := by omega
    rw [hq] at hl
    have HS := Lib.hid hs
    have HL := Lib.hid hl
    clear hl hs hq
    go_enter Tryz.func155, Tryz.ntmps155
    go_wp2
    go_ret
    refine ⟨ret_int ?_, rfl⟩
    obtain ⟨l1, l2⟩ := HL.out
    have hs := HS.out
    clear hi
    rw [l1, hs]
    unfold wrap64
    omega
  by_cases c5 : x < 281474976710656
  · have hi := index_len8 (x / 4294967296 / 256) (by omega) (by omega)
    have hl := bitLen8 (x / 4294967296 / 256) (by omega) (by omega)
    have hs := Lib.bitLen_shift40 x.toNat (by omega) (by omega)
    have hq : (x / 4294967296 / 256).toNat = x.toNat / 1099511627776 := by omega
    rw [hq] at hl
    have HS := Lib.hid hs
    have HL := Lib.hid hl
    clear hl hs hq
    go_enter Tryz.func155, Tryz.ntmps155
    go_wp2
    go_ret
    refine ⟨ret_int ?_, rfl⟩
    obtain ⟨l1, l2⟩ := HL.out
    have hs := HS.out
    clear hi
    rw [l1, hs]
    unfold wrap64
    omega
  by_cases c6 : x < 72057594037927936
  · have hi := index_len8 (x / 4294967296 / 65536) (by omega) (by omega)
    have hl := bitLen8 (x / 4294967296 / 65536) (by omega) (by omega)
    have hs := Lib.bitLen_shift48 x.toNat (by omega) (by omega)
    have hq : (x / 4294967296 / 65536).toNat = x.toNat / 281474976710656 := by omega
    rw [hq] at hl
    have HS := Lib.hid hs
    have HL := Lib.hid hl
    clear hl hs hq
    go_enter Tryz.func155, Tryz.ntmps155
    go_wp2
    go_ret
    refine ⟨ret_int ?_, rfl⟩
    obtain ⟨l1, l2⟩ := HL.out
    have hs := HS.out
    clear hi
    rw [l1, hs]
    unfold wrap64
    omega
  · have hi := index_len8 (x / 4294967296 / 65536 / 256) (by omega) (by omega)
    have hl := bitLen8 (x / 4294967296 / 65536 / 256) (by omega) (by omega)
    have hs := Lib.bitLen_shift56 x.toNat (by omega) (by omega)
    have hq : (x / 4294967296 / 65536 / 256).toNat = x.toNat / 72057594037927936 := by omega
    rw [hq] at hl
    have HS := Lib.hid hs
    have HL := Lib.hid hl
    clear hl hs hq
    go_enter Tryz.func155, Tryz.ntmps155
    go_wp2
    go_ret
    refine ⟨ret_int ?_, rfl⟩
    obtain ⟨l1, l2⟩ := HL.out
    have hs := HS.out
    clear hi
    rw [l1, hs]
    unfold wrap64
    omega
theorem bitLen_bounds (x : Nat) (hx : x < 18446744073709551616) (h0 : x ≠ 0) : 0 < Lib.bitLen x ∧ 2 ^ (Lib.bitLen x - 1) ≤ x ∧ x < 2 ^ Lib.bitLen x := by
  induction x using Nat.strongRecOn with
  | ind x ih =>
    have hh := Lib.bitLen_half x h0 hx
    by_cases h1 : x / 2 = 0
    · have : x = 1 := by omega
      subst this
      exact ⟨by decide, by decide, by decide⟩
    · obtain ⟨i0, i1, i2⟩ := ih (x / 2) (by omega) (by omega) h1
      rw [hh]
      obtain ⟨k, hk⟩ : ∃ k, Lib.bitLen (x / 2) = k + 1 := ⟨Lib.bitLen (x / 2) - 1, by omega⟩
      rw [hk] at i1 i2 ⊢
      rw [show 1 + (k + 1) - 1 = k + 1 from by omega, show 1 + (k + 1) = (k + 1) + 1 from by omega]
      rw [show k + 1 - 1 = k from by omega] at i1
      rw [Nat.pow_succ 2 (k + 1), Nat.pow_succ]
      rw [Nat.pow_succ] at i2
      exact ⟨by omega, by omega, by omega⟩
theorem bitLen_zero : Lib.bitLen 0 = 0 := by decide

/-- how many bits a number has -/
def nbits (m : Nat) : Nat := if m = 0 then 0 else Nat.log2 m + 1
theorem nbits_zero : nbits 0 = 0 := rfl
theorem nbits_of {m b : Nat} (h1 : 2 ^ b ≤ m) (h2 : m < 2 ^ (b + 1)) : nbits m = b + 1 := by
  have h0 : m ≠ 0 := by
    have := Nat.two_pow_pos b
    omega
  unfold nbits
  rw [if_neg h0]
  have a := (Nat.le_log2 h0).2 h1
  have c := (Nat.log2_lt h0).2 h2
  omega
theorem lt_nbits (m : Nat) : m < 2 ^ nbits m := by
  unfold nbits
  by_cases h : m = 0
  · subst h; simp
  · rw [if_neg h]; exact (Nat.log2_lt h).1 (Nat.lt_succ_self _)
theorem nbits_le {m : Nat} (h : m ≠ 0) : 2 ^ (nbits m - 1) ≤ m := by
  unfold nbits
  rw [if_neg h]; exact (Nat.le_log2 h).1 (by omega)
theorem nbits_pos {m : Nat} (h : m ≠ 0) : 0 < nbits m := by unfold nbits; rw [if_neg h]; omega

theorem pow32 (k : Nat) : 4294967296 ^ k = 2 ^ (32 * k) := by rw [show 4294967296 = 2 ^ 32 from rfl, ← Nat.pow_mul]
theorem nbits_limbs {m : Nat} (h : m ≠ 0) : nbits m = 32 * ((Nl.limbs m).length - 1) + Lib.bitLen ((Nl.limbs m).getD ((Nl.limbs m).length - 1) 0) ∧ (Nl.limbs m).getD ((Nl.limbs m).length - 1) 0 ≠ 0 := by
  have hl := Nl.len_pos h
  obtain ⟨k, hk⟩ : ∃ k, (Nl.limbs m).length = k + 1 := ⟨(Nl.limbs m).length - 1, by omega⟩
  have h1 := Nl.val_take_succ (Nl.limbs m) k (by omega)
  rw [Nl.val_take_all (by omega), Nl.val_limbs] at h1
  have h2 := Nl.val_lt ((Nl.limbs_small m).take k)
  rw [List.length_take, Nat.min_eq_left (by omega)] at h2
  have hx := (Nl.limbs_small m).getD k
  have h3 := Nl.limbs_le h
  rw [hk] at h3 ⊢
  rw [show k + 1 - 1 = k from by omega] at h3 ⊢
  obtain ⟨x, ex⟩ : ∃ x, (Nl.limbs m).getD k 0 = x := ⟨_, rfl⟩
  obtain ⟨y, ey⟩ : ∃ y, Nl.val ((Nl.limbs m).take k) = y := ⟨_, rfl⟩
  rw [ex] at h1 hx ⊢
  rw [ey] at h1 h2
  have hx0 : x ≠ 0 := by
    rintro rfl
    omega
  refine ⟨?_, hx0⟩
  obtain ⟨b0, b1, b2⟩ := bitLen_bounds x (by omega) hx0
  obtain ⟨b, hb⟩ : ∃ b, Lib.bitLen x = b + 1 := ⟨Lib.bitLen x - 1, by omega⟩
  rw [hb] at b1 b2 ⊢
  rw [show b + 1 - 1 = b from by omega] at b1
  rw [← Nat.add_assoc]
  apply nbits_of
  · rw [Nat.pow_add, ← pow32, h1]
    have := Nat.mul_le_mul_left (4294967296 ^ k) b1
    omega
  · rw [Nat.add_assoc, Nat.pow_add, ← pow32, h1]
    have : 4294967296 ^ k * (x + 1) ≤ 4294967296 ^ k * 2 ^ (b + 1) := Nat.mul_le_mul_left _ b2
    rw [Nat.mul_add] at this
    omega
end Go.Proofs.YtfaledeidjmooaaGreat
