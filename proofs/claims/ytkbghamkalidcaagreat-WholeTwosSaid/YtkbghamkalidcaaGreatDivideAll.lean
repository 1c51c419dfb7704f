/-
  What decrease does to a number that was just made. Conditions: those that each theorem names.
  What divide does. Conditions: those that each theorem names.
-/
import Derived.Test.YtkbghamkalidcaaGreatPairs
import Derived.Test.YtkbghamkalidcaaGreatShiftAll
import Derived.Laws.EntriesVeiled
import Derived.Deep.RegionHeld3
namespace Go.Proofs.YtkbghamkalidcaaGreat
open Go.RowKit

theorem decrease_nil (vb : Value) (w : World) (hb : At w vb []) :
    Calls Tryz.prog 231 #[.slice none 0 0, vb] w fun e w' => e = .returned (.tuple #[]) ∧ w = w' := by
  obtain ⟨b, cb, rfl, -⟩ := hb.form
  clear hb
  go_enter Tryz.func231, Tryz.ntmps231
  go_wp2
  go_rounds 1
  go_rounds 1
  go_end0
  exact ⟨rfl, rfl⟩

theorem Own.split {base : Nat} {w : World} {v : Value} {xs : List Nat} (h : Own base w v xs) : (v = .slice none 0 0 ∧ xs = []) ∨
    ∃ g L C, v = .slice (some ⟨g, 0, none⟩) xs.length L ∧ base ≤ g ∧ Row w g (xs ++ C) ∧ xs.length ≤ L ∧ L ≤ 9223372036854775807 ∧ (xs ++ C).length = L := by
  rcases h with h | ⟨g, L, h1, h2, h3, h4, h5, h6⟩
  · exact .inl h
  · refine .inr ⟨g, L.length, L.drop xs.length, h1, h2, ?_, h5, h6, ?_⟩
    · have h7 := List.take_append_drop xs.length L
      rw [h4] at h7
      rw [h7]; exact h3
    · rw [List.length_append, List.length_drop]; omega
theorem Own.mk {base : Nat} {w : World} {g L n : Nat} {xs C : List Nat} (hn : xs.length = n) (hb : base ≤ g) (hr : Row w g (xs ++ C)) (hL : L ≤ 9223372036854775807) (hl : (xs ++ C).length = L) :
    Own base w (.slice (some ⟨g, 0, none⟩) n L) xs := by
  subst hn; subst hl
  exact .inr ⟨g, _, rfl, hb, hr, List.take_left' rfl, by simp, hL⟩

/-- a difference in place, in a block that the call itself made -/
theorem decrease_own (base : Nat) (va vb : Value) (xs ys : List Nat) (w : World) (ha : Own base w va xs) (hb : AtP (· < base) w vb ys) (hx : Nl.Small xs) (hy : Nl.Small ys) (hl : ys.length ≤ xs.length) (hB : base ≤ w.heap.size) :
    Calls Tryz.prog 231 #[va, vb] w fun e w' => e = .returned (.tuple #[]) ∧ ∃ Z c, Own base w' va Z ∧ Z.length = xs.length ∧ Nl.Small Z ∧ Nl.val Z + Nl.val ys = Nl.val xs + 4294967296 ^ xs.length * c ∧ Below base w w' := by
  rcases ha.split with ⟨rfl, rfl⟩ | ⟨g, L, C, rfl, h1, h2, h3, h4, h5⟩
  · have hy0 : ys = [] := List.eq_nil_of_length_eq_zero (by simpa using hl)
    subst hy0
    refine (decrease_nil vb w hb.at).mono ?_
    rintro e w' ⟨rfl, rfl⟩
    exact ⟨rfl, [], 0, .inl ⟨rfl, rfl⟩, rfl, Nl.small_nil, by simp, Below.refl _ _⟩
  · refine (decrease_any g 0 L [] xs C ys vb w (by simpa using h2) rfl hx hy (hb.mono fun b _ hb => Nat.ne_of_lt (Nat.lt_of_lt_of_le hb h1)) hl h3 h4).mono ?_
    rintro e w' ⟨rfl, Z, c, ⟨r1, r2⟩, r3, r4, r5⟩
    refine ⟨rfl, Z, c, Own.mk r3 h1 (by simpa using r1) h4 (by rw [List.length_append, r3, ← List.length_append, h5]), r3, r4, r5, below_of_only (Below.refl _ _) r2 h1 hB⟩
end Go.Proofs.YtkbghamkalidcaaGreat

namespace Go.Proofs.YtkbghamkalidcaaGreat
open Go.RowKit

theorem getD_left {Z C : List Nat} {i : Nat} (h : i < Z.length) : (Z ++ C).getD i 0 = Z.getD i 0 := by
  have := Nl.getD_mid (A := []) (C := C) h
  simpa using this
theorem set_left {Z C : List Nat} {i y : Nat} (h : i < Z.length) : (Z ++ C).set i y = Z.set i y ++ C := by rw [List.set_append_left _ _ h]
theorem div_step {x r d V Q : Nat} (hV : V = d * Q + r) : x + 4294967296 * V = d * ((r * 4294967296 + x) / d + 4294967296 * Q) + (r * 4294967296 + x) % d := by
  have h := Nat.div_add_mod (r * 4294967296 + x) d
  rw [Nat.mul_add, hV, Nat.mul_left_comm d 4294967296 Q]
  omega

set_option maxHeartbeats 1000000 in
theorem divide_any (g n cap d : Nat) (Z C : List Nat) (w : World) (hn : Z.length = n) (hr : Row w g (Z ++ C)) (hZ : Nl.Small Z) (hzl : n ≤ cap) (hcap : cap ≤ 9223372036854775807) (hd : 0 < d) (hd2 : d < 4294967296) :
    Calls Tryz.prog 267 #[.slice (some ⟨g, 0, none⟩) n cap, .int .u32 d] w fun e w' => e = .returned (.int .u32 ((Nl.val Z % d : Nat) : Int)) ∧
      ∃ Z', Row w' g (Z' ++ C) ∧ Only g w w' ∧ Z'.length = n ∧ Nl.Small Z' ∧ Nl.val Z' = Nl.val Z / d := by
  have hM := Lib.hid (show Row w g (Z ++ C) ∧ Only g w w from ⟨hr, Only.refl g w⟩)
  have HNN := Lib.hid hn
  clear hr hn
  go_enter Tryz.func267, Tryz.ntmps267
  go_wp2
  go_loopw [5, 6] (fun c i wr => ∃ (k r : Nat) (Z' : List Nat), k ≤ n ∧ i = .int .i64 ((k : Int) - 1) ∧ c = .int .u64 (r : Int) ∧ r < d ∧ Hid (Row wr g (Z' ++ C) ∧ Only g w wr) ∧ Hid (Z'.length = n) ∧ Hid (Nl.Small Z') ∧ Hid (Z'.take k = Z.take k) ∧
      Hid (Nl.val (Z.drop k) = d * Nl.val (Z'.drop k) + r)) (fun _ i _ => (intOf i + 1).toNat)
  case atStart => exact ⟨n, 0, Z, Nat.le_refl _, rfl, rfl, hd, hM, HNN, hZ, rfl, by rw [Hid, List.drop_of_length_le (by rw [HNN.out]; omega)]; simp⟩
  case round =>
    obtain ⟨k, r, Z', hk, rfl, rfl, hrd, hm, hlen, hsm, htk, hv⟩ := hrel
    cases k with
    | zero =>
      go_wp2
      go_ret
      have hv := hv.out
      rw [List.drop_zero, List.drop_zero] at hv
      refine ⟨ret_int ?_, Z', hm.out.1, hm.out.2, hlen.out, hsm.out, ?_⟩
      · rw [hv, Nat.mul_add_mod, Nat.mod_eq_of_lt hrd]
      · rw [hv, Nat.mul_add_div hd, Nat.div_eq_of_lt hrd, Nat.add_zero]
    | succ k =>
      rw [show ((k + 1 : Nat) : Int) - 1 = (k : Int) from by omega]
      obtain ⟨x, hx⟩ : ∃ x, x = Z'.getD k 0 := ⟨_, rfl⟩
      have hx2 : x < 4294967296 := by rw [hx]; exact hsm.out.getD k
      have cx := hm.out.1.cell (i := k) (by rw [List.length_append, hlen.out]; omega)
      rw [getD_left (by rw [hlen.out]; omega), ← hx] at cx
      have fx := hm.out.1.free k
      have Hx := Lib.hid hx
      clear hx
      obtain ⟨s, hs⟩ : ∃ s, s = r * 4294967296 + x := ⟨_, rfl⟩
      have hb : bits BinOp.or IntKind.u64 ((r : Int) * 4294967296) (x : Int) = (s : Int) := by
        rw [show (r : Int) * 4294967296 = ((r * 4294967296 : Nat) : Int) from by omega, u64_or_nat _ _ (by omega) (by omega), nat_join 32 _ _ (by omega) (by omega), hs]
      have hs1 : s < 18446744073709551616 := by omega
      have hq : s / d < 4294967296 := Nat.div_lt_of_lt_mul (by
        have : (r + 1) * 4294967296 ≤ d * 4294967296 := Nat.mul_le_mul_right _ hrd
        omega)
      have hdz : ¬ ((d : Int) = 0) := by omega
      have hw : IntKind.u64.wrap ((s : Int) / (d : Int)) % 4294967296 = ((s / d : Nat) : Int) := by
        rw [IntKind.wrap_u64, show (s : Int) / (d : Int) = ((s / d : Nat) : Int) from rfl]
        generalize s / d = q at hq ⊢
        omega
      have HW := Lib.hid hw
      clear hw
      have HS := Lib.hid hs
      have HQ := Lib.hid hq
      clear hs hq
      go_wp2
      go_roundw
      case rel =>
        rw [HW.out, show (s : Int) % (d : Int) = ((s % d : Nat) : Int) from rfl]
        have hkl : k < Z'.length := by rw [hlen.out]; omega
        refine ⟨k, s % d, Z'.set k (s / d), by omega, rfl, rfl, Nat.mod_lt _ hd, ?_, ?_, ?_, ?_, ?_⟩
        · refine ⟨?_, grown_trans hm.out.2 (Only.setCell g _ _ _)⟩
          rw [← set_left hkl]; exact hm.out.1.set _ _
        · rw [Hid, List.length_set]; exact hlen.out
        · exact hsm.out.set _ HQ.out
        · rw [Hid, List.take_set_of_le (Nat.le_refl k)]
          have := congrArg (List.take k) htk.out
          rw [List.take_take, List.take_take, Nat.min_eq_left (by omega)] at this
          exact this
        · have hzx : Z.getD k 0 = x := by
            have := congrArg (fun l : List Nat => l.getD k 0) htk.out
            simp only [List.getD_eq_getElem?_getD, List.getElem?_take] at this
            rw [if_pos (by omega), if_pos (by omega)] at this
            rw [Hx.out]
            simpa using this.symm
          rw [Hid, Nl.val_drop_succ _ _ (by rw [HNN.out]; omega), hzx, Nl.val_drop_succ (Z'.set k (s / d)) _ (by rw [List.length_set]; exact hkl), Nl.drop_set_succ, HS.out]
          rw [show (Z'.set k ((r * 4294967296 + x) / d)).getD k 0 = (r * 4294967296 + x) / d from by simp [hkl]]
          exact div_step hv.out
      case measure => simp [intOf] <;> omega
end Go.Proofs.YtkbghamkalidcaaGreat
