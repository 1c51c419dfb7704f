/-
  What increase and decrease do. Conditions: those that each theorem names.
-/
import Derived.Test.YtkbghamkalidcaaGreatCompareAll
namespace Go.Proofs.YtkbghamkalidcaaGreat
open Go.RowKit

/-- what a loop that changes the words Z of block g in place keeps -/
def Mid (w w' : World) (g : Nat) (A Z C : List Nat) : Prop := Row w' g (A ++ (Z ++ C)) ∧ Only g w w'

theorem Mid.set {w w' : World} {g off : Nat} {A Z C : List Nat} (h : Mid w w' g A Z C) (ho : off = A.length) {i : Nat} (hi : i < Z.length) (y : Nat) :
    Mid w (w'.setCell ⟨g, off + i, none⟩ (.int .u32 (y : Int))) g A (Z.set i y) C := by
  subst ho
  refine ⟨?_, grown_trans h.2 (Only.setCell g _ _ _)⟩
  rw [← Nl.set_mid hi]
  exact h.1.set _ _
theorem Mid.cell {w w' : World} {g off : Nat} {A Z C : List Nat} (h : Mid w w' g A Z C) (ho : off = A.length) {i : Nat} (hi : i < Z.length) :
    w'.cell? ⟨g, off + i, none⟩ = some (.int .u32 ((Z.getD i 0 : Nat) : Int)) := by
  subst ho
  rw [h.1.cell (by simp; omega), Nl.getD_mid hi]

set_option maxHeartbeats 1000000 in
theorem increase_any (g off cap : Nat) (A Z C ys : List Nat) (vb : Value) (w : World) (hr : Row w g (A ++ (Z ++ C))) (ho : off = A.length) (hZ : Nl.Small Z) (hys : Nl.Small ys)
    (hb : AtP (· ≠ g) w vb ys) (hl : ys.length ≤ Z.length) (hzl : Z.length ≤ cap) (hcap : cap ≤ 9223372036854775807) :
    Calls Tryz.prog 228 #[.slice (some ⟨g, off, none⟩) Z.length cap, vb] w fun e w' => e = .returned (.tuple #[]) ∧
      ∃ Z' c, Mid w w' g A Z' C ∧ Z'.length = Z.length ∧ Nl.Small Z' ∧ Nl.val Z' + 4294967296 ^ Z.length * c = Nl.val Z + Nl.val ys := by
  have hM := Lib.hid (show Mid w w g A Z C from ⟨hr, Only.refl g w⟩)
  have HO := Lib.hid ho
  have HB := Lib.hid hb
  have sb := hb.short
  obtain ⟨b, cb, rfl, fb⟩ := hb.form
  have FB := Lib.hid fb
  clear hr ho hb fb
  go_enter Tryz.func228, Tryz.ntmps228
  go_wp2
  go_loopw [4, 10] (fun c i wr => ∃ (k : Nat) (d : Nat) (Z' : List Nat), k ≤ ys.length ∧ i = .int .i64 k ∧ c = .int .u32 (d : Int) ∧ d < 2 ∧ Hid (Mid w wr g A Z' C) ∧ Hid (Z'.length = Z.length) ∧ Hid (Nl.Small Z') ∧ Hid (Z'.drop k = Z.drop k) ∧
      Hid (Nl.val (Z'.take k) + 4294967296 ^ k * d = Nl.val (Z.take k) + Nl.val (ys.take k))) (fun _ i _ => (ys.length - (intOf i).toNat))
  case atStart => exact ⟨0, 0, Z, by omega, rfl, rfl, by omega, hM, rfl, hZ, rfl, by simp [Hid]⟩
  case round =>
    obtain ⟨k, d, Z', hk, rfl, rfl, hd, hm, hlen, hsm, hdr, hv⟩ := hrel
    by_cases hlt : k < ys.length
    · obtain ⟨y, hy⟩ : ∃ y, y = ys.getD k 0 := ⟨_, rfl⟩
      obtain ⟨x, hx⟩ : ∃ x, x = Z'.getD k 0 := ⟨_, rfl⟩
      have hx2 : x < 4294967296 := by rw [hx]; exact hsm.out.getD k
      have hy2 : y < 4294967296 := by rw [hy]; exact hys.getD k
      have cx := hm.out.cell HO.out (i := k) (by rw [hlen.out]; omega)
      rw [← hx] at cx
      have fx := hm.out.1.free (off + k)
      rcases FB.out with fb | ⟨bb, ob, rfl, hbg, hcb, -, hbb, hcy⟩
      · rw [fb] at hlt; simp at hlt
      have cy : wr.cell? ⟨bb, ob + k, none⟩ = some (.int .u32 (y : Int)) := by rw [hy]; exact hm.out.2.cell (hcy k hlt) (by simpa using hbg)
      have Hx := Lib.hid hx
      have Hy := Lib.hid hy
      clear hx hy hcy
      go_wp2_with (go_at_call 219; refine (add32 _ _ _ (by omega) (by omega) (by omega) _).mono ?_; rintro e w' ⟨rfl, rfl⟩)
      go_roundw
      case rel =>
        have hs : x + y + d = Z'.getD k 0 + y + d := by rw [← Hx.out]
        refine ⟨k + 1, (x + y + d) / 4294967296, Z'.set k ((x + y + d) % 4294967296), by omega, by go_num, rfl, by omega, hm.out.set HO.out (by rw [hlen.out]; omega) _, ?_, ?_, ?_, ?_⟩
        · simpa [Hid] using hlen.out
        · exact hsm.out.set _ (by omega)
        · rw [Hid, Nl.drop_set_succ]; exact Nl.drop_succ_of hdr.out
        · exact Nl.add_step hlen.out (by omega) hdr.out hv.out y (by rw [Hy.out]; exact Nl.val_take_succ _ _ hlt) hs
      case measure => simp [intOf] <;> omega
    · have hk' : k = ys.length := by omega
      have hv' : Hid (Nl.val (Z'.take k) + 4294967296 ^ k * d = Nl.val (Z.take k) + Nl.val ys) := by
        have := hv.out
        rw [Nl.val_take_all (xs := ys) (by omega)] at this
        exact this
      clear hv
      obtain ⟨w0, hw0⟩ : ∃ w0, w0 = wr := ⟨_, rfl⟩
      have HK := Lib.hid hk'
      clear hk' hw0
      go_wp2
      go_loopw [4, 7] (fun c i wr => ∃ (k : Nat) (d : Nat) (Z' : List Nat), k ≤ Z.length ∧ i = .int .i64 k ∧ c = .int .u32 (d : Int) ∧ d < 2 ∧ Hid (Mid w wr g A Z' C) ∧ Hid (Z'.length = Z.length) ∧ Hid (Nl.Small Z') ∧ Hid (Z'.drop k = Z.drop k) ∧
        Hid (Nl.val (Z'.take k) + 4294967296 ^ k * d = Nl.val (Z.take k) + Nl.val ys)) (fun _ i _ => (Z.length - (intOf i).toNat))
      case atStart => exact ⟨k, d, Z', by omega, by rw [HK.out], rfl, hd, hm, hlen, hsm, hdr, hv'⟩
      case round =>
        clear hdr hv' hm hlen hsm hlt hk hd
        obtain ⟨k, d, Z', hk, rfl, rfl, hd, hm, hlen, hsm, hdr, hv⟩ := hrel
        by_cases hd0 : d = 0
        · have e0 : ((d : Int) != 0) = false := by simp [hd0]
          have HD := Lib.hid hd0
          clear hd0
          go_wp2
          go_end0
          refine ⟨rfl, Z', 0, hm.out, hlen.out, hsm.out, ?_⟩
          have h1 := hv.out
          have h2 := Nl.val_take_drop Z' k (by rw [hlen.out]; exact hk)
          have h3 := Nl.val_take_drop Z k hk
          rw [hdr.out] at h2
          rw [HD.out] at h1
          omega
        · have e0 : ((d : Int) != 0) = true := by rw [bne_iff_ne]; omega
          by_cases hlt : k < Z.length
          · obtain ⟨x, hx⟩ : ∃ x, x = Z'.getD k 0 := ⟨_, rfl⟩
            have hx2 : x < 4294967296 := by rw [hx]; exact hsm.out.getD k
            have cx := hm.out.cell HO.out (i := k) (by rw [hlen.out]; omega)
            rw [← hx] at cx
            have fx := hm.out.1.free (off + k)
            have Hx := Lib.hid hx
            clear hx
            go_wp2_with (go_at_call 219; refine (add32 _ 0 _ (by omega) (by omega) (by omega) _).mono ?_; rintro e w' ⟨rfl, rfl⟩)
            go_roundw
            case rel =>
              have hs : x + 0 + d = Z'.getD k 0 + 0 + d := by rw [← Hx.out]
              refine ⟨k + 1, (x + 0 + d) / 4294967296, Z'.set k ((x + 0 + d) % 4294967296), by omega, by go_num, rfl, by omega, hm.out.set HO.out (by rw [hlen.out]; omega) _, ?_, ?_, ?_, ?_⟩
              · simpa [Hid] using hlen.out
              · exact hsm.out.set _ (by omega)
              · rw [Hid, Nl.drop_set_succ]; exact Nl.drop_succ_of hdr.out
              · exact Nl.add_step hlen.out (by omega) hdr.out hv.out 0 (by simp) hs
            case measure => simp [intOf] <;> omega
          · go_wp2
            go_end0
            refine ⟨rfl, Z', d, hm.out, hlen.out, hsm.out, ?_⟩
            have h1 := hv.out
            rw [Nl.val_take_all (by rw [hlen.out]; omega), Nl.val_take_all (by omega), show k = Z.length from by omega] at h1
            exact h1
set_option maxHeartbeats 1000000 in
theorem decrease_any (g off cap : Nat) (A Z C ys : List Nat) (vb : Value) (w : World) (hr : Row w g (A ++ (Z ++ C))) (ho : off = A.length) (hZ : Nl.Small Z) (hys : Nl.Small ys)
    (hb : AtP (· ≠ g) w vb ys) (hl : ys.length ≤ Z.length) (hzl : Z.length ≤ cap) (hcap : cap ≤ 9223372036854775807) :
    Calls Tryz.prog 231 #[.slice (some ⟨g, off, none⟩) Z.length cap, vb] w fun e w' => e = .returned (.tuple #[]) ∧
      ∃ Z' c, Mid w w' g A Z' C ∧ Z'.length = Z.length ∧ Nl.Small Z' ∧ Nl.val Z' + Nl.val ys = Nl.val Z + 4294967296 ^ Z.length * c := by
  have hM := Lib.hid (show Mid w w g A Z C from ⟨hr, Only.refl g w⟩)
  have HO := Lib.hid ho
  have HB := Lib.hid hb
  have sb := hb.short
  obtain ⟨b, cb, rfl, fb⟩ := hb.form
  have FB := Lib.hid fb
  clear hr ho hb fb
  go_enter Tryz.func231, Tryz.ntmps231
  go_wp2
  go_loopw [4, 10] (fun c i wr => ∃ (k : Nat) (d : Nat) (Z' : List Nat), k ≤ ys.length ∧ i = .int .i64 k ∧ c = .int .u32 (d : Int) ∧ d < 2 ∧ Hid (Mid w wr g A Z' C) ∧ Hid (Z'.length = Z.length) ∧ Hid (Nl.Small Z') ∧ Hid (Z'.drop k = Z.drop k) ∧
      Hid (Nl.val (Z'.take k) + Nl.val (ys.take k) = Nl.val (Z.take k) + 4294967296 ^ k * d)) (fun _ i _ => (ys.length - (intOf i).toNat))
  case atStart => exact ⟨0, 0, Z, by omega, rfl, rfl, by omega, hM, rfl, hZ, rfl, by simp [Hid]⟩
  case round =>
    obtain ⟨k, d, Z', hk, rfl, rfl, hd, hm, hlen, hsm, hdr, hv⟩ := hrel
    by_cases hlt : k < ys.length
    · obtain ⟨y, hy⟩ : ∃ y, y = ys.getD k 0 := ⟨_, rfl⟩
      obtain ⟨x, hx⟩ : ∃ x, x = Z'.getD k 0 := ⟨_, rfl⟩
      have hx2 : x < 4294967296 := by rw [hx]; exact hsm.out.getD k
      have hy2 : y < 4294967296 := by rw [hy]; exact hys.getD k
      have cx := hm.out.cell HO.out (i := k) (by rw [hlen.out]; omega)
      rw [← hx] at cx
      have fx := hm.out.1.free (off + k)
      rcases FB.out with fb | ⟨bb, ob, rfl, hbg, hcb, -, hbb, hcy⟩
      · rw [fb] at hlt; simp at hlt
      have cy : wr.cell? ⟨bb, ob + k, none⟩ = some (.int .u32 (y : Int)) := by rw [hy]; exact hm.out.2.cell (hcy k hlt) (by simpa using hbg)
      have Hx := Lib.hid hx
      have Hy := Lib.hid hy
      clear hx hy hcy
      go_wp2_with (go_at_call 259; refine (sub32 _ _ _ (by omega) (by omega) (by omega) _).mono ?_; rintro e w' ⟨rfl, rfl⟩)
      go_roundw
      case rel =>
        have hs : (x + 4294967296 + 4294967296 - y - d) % 4294967296 + y + d = Z'.getD k 0 + 4294967296 * bor x y d := by rw [← Hx.out]; unfold bor; split <;> omega
        refine ⟨k + 1, bor x y d, Z'.set k ((x + 4294967296 + 4294967296 - y - d) % 4294967296), by omega, by go_num, rfl, bor_lt _ _ _, hm.out.set HO.out (by rw [hlen.out]; omega) _, ?_, ?_, ?_, ?_⟩
        · simpa [Hid] using hlen.out
        · exact hsm.out.set _ (Nat.mod_lt _ (by decide))
        · rw [Hid, Nl.drop_set_succ]; exact Nl.drop_succ_of hdr.out
        · exact Nl.sub_step hlen.out (by omega) hdr.out hv.out y (by rw [Hy.out]; exact Nl.val_take_succ _ _ hlt) hs
      case measure => simp [intOf] <;> omega
    · have hk' : k = ys.length := by omega
      have hv' : Hid (Nl.val (Z'.take k) + Nl.val ys = Nl.val (Z.take k) + 4294967296 ^ k * d) := by
        have := hv.out
        rw [Nl.val_take_all (xs := ys) (by omega)] at this
        exact this
      clear hv
      obtain ⟨w0, hw0⟩ : ∃ w0, w0 = wr := ⟨_, rfl⟩
      have HK := Lib.hid hk'
      clear hk' hw0
      go_wp2
      go_loopw [4, 7] (fun c i wr => ∃ (k : Nat) (d : Nat) (Z' : List Nat), k ≤ Z.length ∧ i = .int .i64 k ∧ c = .int .u32 (d : Int) ∧ d < 2 ∧ Hid (Mid w wr g A Z' C) ∧ Hid (Z'.length = Z.length) ∧ Hid (Nl.Small Z') ∧ Hid (Z'.drop k = Z.drop k) ∧
        Hid (Nl.val (Z'.take k) + Nl.val ys = Nl.val (Z.take k) + 4294967296 ^ k * d)) (fun _ i _ => (Z.length - (intOf i).toNat))
      case atStart => exact ⟨k, d, Z', by omega, by rw [HK.out], rfl, hd, hm, hlen, hsm, hdr, hv'⟩
      case round =>
        clear hdr hv' hm hlen hsm hlt hk hd
        obtain ⟨k, d, Z', hk, rfl, rfl, hd, hm, hlen, hsm, hdr, hv⟩ := hrel
        by_cases hd0 : d = 0
        · have e0 : ((d : Int) != 0) = false := by simp [hd0]
          have HD := Lib.hid hd0
          clear hd0
          go_wp2
          go_end0
          refine ⟨rfl, Z', 0, hm.out, hlen.out, hsm.out, ?_⟩
          have h1 := hv.out
          have h2 := Nl.val_take_drop Z' k (by rw [hlen.out]; exact hk)
          have h3 := Nl.val_take_drop Z k hk
          rw [hdr.out] at h2
          rw [HD.out] at h1
          omega
        · have e0 : ((d : Int) != 0) = true := by rw [bne_iff_ne]; omega
          by_cases hlt : k < Z.length
          · obtain ⟨x, hx⟩ : ∃ x, x = Z'.getD k 0 := ⟨_, rfl⟩
            have hx2 : x < 4294967296 := by rw [hx]; exact hsm.out.getD k
            have cx := hm.out.cell HO.out (i := k) (by rw [hlen.out]; omega)
            rw [← hx] at cx
            have fx := hm.out.1.free (off + k)
            have Hx := Lib.hid hx
            clear hx
            go_wp2_with (go_at_call 259; refine (sub32 _ 0 _ (by omega) (by omega) (by omega) _).mono ?_; rintro e w' ⟨rfl, rfl⟩)
            go_roundw
            case rel =>
              have hs : (x + 4294967296 + 4294967296 - 0 - d) % 4294967296 + 0 + d = Z'.getD k 0 + 4294967296 * bor x 0 d := by rw [← Hx.out]; unfold bor; split <;> omega
              refine ⟨k + 1, bor x 0 d, Z'.set k ((x + 4294967296 + 4294967296 - 0 - d) % 4294967296), by omega, by go_num, rfl, bor_lt _ _ _, hm.out.set HO.out (by rw [hlen.out]; omega) _, ?_, ?_, ?_, ?_⟩
              · simpa [Hid] using hlen.out
              · exact hsm.out.set _ (Nat.mod_lt _ (by decide))
              · rw [Hid, Nl.drop_set_succ]; exact Nl.drop_succ_of hdr.out
              · exact Nl.sub_step hlen.out (by omega) hdr.out hv.out 0 (by simp) hs
            case measure => simp [intOf] <;> omega
          · go_wp2
            go_end0
            refine ⟨rfl, Z', d, hm.out, hlen.out, hsm.out, ?_⟩
            have h1 := hv.out
            rw [Nl.val_take_all (by rw [hlen.out]; omega), Nl.val_take_all (by omega), show k = Z.length from by omega] at h1
            exact h1
end Go.Proofs.YtkbghamkalidcaaGreat
