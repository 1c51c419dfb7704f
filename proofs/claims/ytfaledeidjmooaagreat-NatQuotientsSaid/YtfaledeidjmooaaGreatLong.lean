/-
  What decreaseTimes and estimate do. Conditions: those that each theorem names.
-/
import Derived.Test.YtfaledeidjmooaaGreatPairs
import Derived.BigQuiet
namespace Go.Proofs.YtfaledeidjmooaaGreat
open Go.RowKit

/-- one step of a difference with a product -/
theorem dec_step {Z Z' ys : List Nat} {k c x y s c' : Nat} (hl : Z'.length = Z.length) (hk : k < Z.length) (hky : k < ys.length) (hd : Z'.drop k = Z.drop k) (hy : y = ys.getD k 0)
    (hv : Nl.val (Z'.take k) + x * Nl.val (ys.take k) = Nl.val (Z.take k) + 4294967296 ^ k * c) (hs : s + x * y + c = Z'.getD k 0 + 4294967296 * c') :
    Nl.val ((Z'.set k s).take (k + 1)) + x * Nl.val (ys.take (k + 1)) = Nl.val (Z.take (k + 1)) + 4294967296 ^ (k + 1) * c' := by
  refine Nl.sub_step hl hk hd hv (x * y) ?_ hs
  rw [Nl.val_take_succ _ _ hky, Nat.mul_add, ← hy, Nat.mul_left_comm x]

set_option maxHeartbeats 1000000 in
theorem decreaseTimes_any (g off n cap x : Nat) (A Z C ys : List Nat) (vb : Value) (w : World) (hn : Z.length = n) (hr : Row w g (A ++ (Z ++ C))) (ho : off = A.length) (hZ : Nl.Small Z) (hys : Nl.Small ys)
    (hb : AtP (· ≠ g) w vb ys) (hl : ys.length ≤ n) (hzl : n ≤ cap) (hcap : cap ≤ 9223372036854775807) (hx : x < 4294967296) :
    Calls Tryz.prog 158 #[.slice (some ⟨g, off, none⟩) n cap, vb, .int .u32 x] w fun e w' =>
      ∃ Z' c, e = .returned (.int .u64 ((c : Nat) : Int)) ∧ c < 4294967296 ∧ Mid w w' g A Z' C ∧ Z'.length = n ∧ Nl.Small Z' ∧ Z'.drop ys.length = Z.drop ys.length ∧
        Nl.val (Z'.take ys.length) + x * Nl.val ys = Nl.val (Z.take ys.length) + 4294967296 ^ ys.length * c := by
  have hM := Lib.hid (show Mid w w g A Z C from ⟨hr, Only.refl g w⟩)
  have HO := Lib.hid ho
  have HNN := Lib.hid hn
  have sb := hb.short
  obtain ⟨b, cb, rfl, fb⟩ := hb.form
  have FB := Lib.hid fb
  clear hr ho hb fb hn
  go_enter Tryz.func158, Tryz.ntmps158
  go_wp2
  go_loopw [7, 17] (fun c i wr => ∃ (k : Nat) (d : Nat) (Z' : List Nat), k ≤ ys.length ∧ i = .int .i64 k ∧ c = .int .u64 (d : Int) ∧ d < 4294967296 ∧ Hid (Mid w wr g A Z' C) ∧ Hid (Z'.length = Z.length) ∧ Hid (Nl.Small Z') ∧ Hid (Z'.drop k = Z.drop k) ∧
      Hid (Nl.val (Z'.take k) + x * Nl.val (ys.take k) = Nl.val (Z.take k) + 4294967296 ^ k * d)) (fun _ i _ => (ys.length - (intOf i).toNat))
  case atStart => exact ⟨0, 0, Z, by omega, rfl, rfl, by omega, hM, rfl, hZ, rfl, by simp [Hid]⟩
  case round =>
    obtain ⟨k, d, Z', hk, rfl, rfl, hd, hm, hlen, hsm, hdr, hv⟩ := hrel
    by_cases hlt : k < ys.length
    · obtain ⟨y, hy⟩ : ∃ y, y = ys.getD k 0 := ⟨_, rfl⟩
      obtain ⟨z, hz⟩ : ∃ z, z = Z'.getD k 0 := ⟨_, rfl⟩
      have hz2 : z < 4294967296 := by rw [hz]; exact hsm.out.getD k
      have hy2 : y < 4294967296 := by rw [hy]; exact hys.getD k
      have cx := hm.out.cell HO.out (i := k) (by rw [hlen.out, HNN.out]; omega)
      rw [← hz] at cx
      have fx := hm.out.1.free (off + k)
      rcases FB.out with fb | ⟨bb, ob, rfl, hbg, hcb, -, hbb, hcy⟩
      · rw [fb] at hlt; simp at hlt
      have cy : wr.cell? ⟨bb, ob + k, none⟩ = some (.int .u32 (y : Int)) := by rw [hy]; exact hm.out.2.cell (hcy k hlt) (by simpa using hbg)
      have hp : x * y ≤ 4294967295 * 4294967295 := Nat.mul_le_mul (by omega) (by omega)
      have hpi : (x : Int) * (y : Int) = ((x * y : Nat) : Int) := by rw [Int.natCast_mul]
      obtain ⟨p, hpp⟩ : ∃ p, p = x * y := ⟨_, rfl⟩
      rw [← hpp] at hp hpi
      have Hz := Lib.hid hz
      have Hy := Lib.hid hy
      have Hp := Lib.hid hpp
      clear hz hy hcy hpp
      by_cases hbw : z < (p + d) % 4294967296
      · have t1 : decide ((z : Int) < ((p : Int) + (d : Int)) % 4294967296) = true := decide_eq_true (by omega)
        obtain ⟨s, hs⟩ : ∃ s, s = z + 4294967296 - (p + d) % 4294967296 := ⟨_, rfl⟩
        have hsub : ((z : Int) - ((p : Int) + (d : Int)) % 4294967296) % 4294967296 = (s : Int) := by omega
        have HR := Lib.hid (show s + p + d = z + 4294967296 * ((p + d) / 4294967296 + 1) ∧ s < 4294967296 ∧ (p + d) / 4294967296 + 1 < 4294967296 by omega)
        clear hs hbw
        go_wp2
        go_roundw
        case rel =>
          refine ⟨k + 1, (p + d) / 4294967296 + 1, Z'.set k s, by omega, by go_num, by go_num, HR.out.2.2, hm.out.set HO.out (by rw [hlen.out, HNN.out]; omega) _, ?_, ?_, ?_, ?_⟩
          · simpa [Hid] using hlen.out
          · exact hsm.out.set _ HR.out.2.1
          · rw [Hid, Nl.drop_set_succ]; exact Nl.drop_succ_of hdr.out
          · exact dec_step hlen.out (by rw [HNN.out]; omega) hlt hdr.out Hy.out hv.out (by rw [← Hz.out, ← Hp.out]; exact HR.out.1)
        case measure => simp [intOf] <;> omega
      · have t1 : decide ((z : Int) < ((p : Int) + (d : Int)) % 4294967296) = false := decide_eq_false (by omega)
        obtain ⟨s, hs⟩ : ∃ s, s = z - (p + d) % 4294967296 := ⟨_, rfl⟩
        have hsub : ((z : Int) - ((p : Int) + (d : Int)) % 4294967296) % 4294967296 = (s : Int) := by omega
        have HR := Lib.hid (show s + p + d = z + 4294967296 * ((p + d) / 4294967296) ∧ s < 4294967296 ∧ (p + d) / 4294967296 < 4294967296 by omega)
        clear hs hbw
        go_wp2
        go_roundw
        case rel =>
          refine ⟨k + 1, (p + d) / 4294967296, Z'.set k s, by omega, by go_num, by go_num, HR.out.2.2, hm.out.set HO.out (by rw [hlen.out, HNN.out]; omega) _, ?_, ?_, ?_, ?_⟩
          · simpa [Hid] using hlen.out
          · exact hsm.out.set _ HR.out.2.1
          · rw [Hid, Nl.drop_set_succ]; exact Nl.drop_succ_of hdr.out
          · exact dec_step hlen.out (by rw [HNN.out]; omega) hlt hdr.out Hy.out hv.out (by rw [← Hz.out, ← Hp.out]; exact HR.out.1)
        case measure => simp [intOf] <;> omega
    · go_wp2
      go_ret
      refine ⟨Z', d, rfl, hd, hm.out, by rw [hlen.out, HNN.out], hsm.out, ?_, ?_⟩
      · have := hdr.out
        rw [show k = ys.length from by omega] at this
        exact this
      · have := hv.out
        rw [show k = ys.length from by omega, List.take_of_length_le (Nat.le_refl ys.length)] at this
        exact this
end Go.Proofs.YtfaledeidjmooaaGreat
