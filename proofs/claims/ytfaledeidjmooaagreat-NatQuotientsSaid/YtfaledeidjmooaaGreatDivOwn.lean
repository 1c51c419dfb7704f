/-
  What divide does to a row of one's own. What slices.Clone does. Conditions: those that each theorem names.
-/
import Derived.Test.YtfaledeidjmooaaGreatParse
import Derived.Test.YtfaledeidjmooaaGreatDivide
import Derived.Laws.OwnMore
namespace Go.Proofs.YtfaledeidjmooaaGreat
open Go.RowKit

theorem vals_set (xs : List Nat) (k y : Nat) : vals (xs.set k y) = (vals xs).set k (.int .u32 (y : Int)) := by simp [vals, List.map_set]

set_option maxHeartbeats 1000000 in
theorem divide_own (base g n cap d : Nat) (Z : List Nat) (w : World) (hn : Z.length = n) (hr : w.ownsRow base 59 1 (.slice (some ⟨g, 0, none⟩) n cap) n (vals Z)) (hZ : Nl.Small Z) (hzl : n ≤ cap) (hcap : cap ≤ 9223372036854775807) (hd : 0 < d) (hd2 : d < 4294967296) :
    Calls Tryz.prog 148 #[.slice (some ⟨g, 0, none⟩) n cap, .int .u32 d] w fun e w' => e = .returned (.int .u32 ((Nl.val Z % d : Nat) : Int)) ∧
      ∃ Z', w'.ownsRow base 59 1 (.slice (some ⟨g, 0, none⟩) n cap) n (vals Z') ∧ Only g w w' ∧ Z'.length = n ∧ Nl.Small Z' ∧ Nl.val Z' = Nl.val Z / d := by
  have hM := Lib.hid (show w.ownsRow base 59 1 (.slice (some ⟨g, 0, none⟩) n cap) n (vals Z) ∧ Only g w w from ⟨hr, Only.refl g w⟩)
  have HNN := Lib.hid hn
  clear hr hn
  go_enter Tryz.func148, Tryz.ntmps148
  go_wp2
  go_loopw [5, 6] (fun c i wr => ∃ (k r : Nat) (Z' : List Nat), k ≤ n ∧ i = .int .i64 ((k : Int) - 1) ∧ c = .int .u64 (r : Int) ∧ r < d ∧ Hid (wr.ownsRow base 59 1 (.slice (some ⟨g, 0, none⟩) n cap) n (vals Z') ∧ Only g w wr) ∧ Hid (Z'.length = n) ∧ Hid (Nl.Small Z') ∧ Hid (Z'.take k = Z.take k) ∧
      Hid (Nl.val (Z.drop k) = d * Nl.val (Z'.drop k) + r)) (fun _ i _ => (intOf i + 1).toNat)
  case atStart => exact ⟨n, 0, Z, Nat.le_refl _, rfl, rfl, hd, hM, HNN, hZ, rfl, by rw [Hid, List.drop_of_length_le (by rw [HNN.out]; omega)]; simp⟩
  case round =>
    obtain ⟨k, r, Z', hk, rfl, rfl, hrd, hm, hlen, hsm, htk, hv⟩ := hrel
    cases k with
    | zero =>
      go_wp2
      go_ret
      have hv := hv.out
      rw [List.drop_zero, List.drop_zero] at hv
      refine ⟨ret_int ?_, Z', hm.out.1, hm.out.2, hlen.out, hsm.out, ?_⟩
      · rw [hv, Nat.mul_add_mod, Nat.mod_eq_of_lt hrd]
      · rw [hv, Nat.mul_add_div hd, Nat.div_eq_of_lt hrd, Nat.add_zero]
    | succ k =>
      rw [show ((k + 1 : Nat) : Int) - 1 = (k : Int) from by omega]
      obtain ⟨x, hx⟩ : ∃ x, x = Z'.getD k 0 := ⟨_, rfl⟩
      have hx2 : x < 4294967296 := by rw [hx]; exact hsm.out.getD k
      have cx := (hm.out.1.cellAt k (by omega)).trans (vals_get (by rw [hlen.out]; omega))
      rw [← hx] at cx
      have fx := hm.out.1.frozenAt k
      have Hx := Lib.hid hx
      clear hx
      obtain ⟨s, hs⟩ : ∃ s, s = r * 4294967296 + x := ⟨_, rfl⟩
      have hb : bits BinOp.or IntKind.u64 ((r : Int) * 4294967296) (x : Int) = (s : Int) := by
        rw [show (r : Int) * 4294967296 = ((r * 4294967296 : Nat) : Int) from by omega, u64_or_nat _ _ (by omega) (by omega), nat_join 32 _ _ (by omega) (by omega), hs]
      have hs1 : s < 18446744073709551616 := by omega
      have hq : s / d < 4294967296 := Nat.div_lt_of_lt_mul (by
        have : (r + 1) * 4294967296 ≤ d * 4294967296 := Nat.mul_le_mul_right _ hrd
        omega)
      have hdz : ¬ ((d : Int) = 0) := by omega
      have hw : IntKind.u64.wrap ((s : Int) / (d : Int)) % 4294967296 = ((s / d : Nat) : Int) := by
        rw [IntKind.wrap_u64, show (s : Int) / (d : Int) = ((s / d : Nat) : Int) from rfl]
        generalize s / d = q at hq ⊢
        omega
      have HW := Lib.hid hw
      clear hw
      have HS := Lib.hid hs
      have HQ := Lib.hid hq
      clear hs hq
      go_wp2
      go_roundw
      case rel =>
        rw [HW.out, show (s : Int) % (d : Int) = ((s % d : Nat) : Int) from rfl]
        have hkl : k < Z'.length := by rw [hlen.out]; omega
        refine ⟨k, s % d, Z'.set k (s / d), by omega, rfl, rfl, Nat.mod_lt _ hd, ?_, ?_, ?_, ?_, ?_⟩
        · refine ⟨?_, grown_trans hm.out.2 (Only.setCell g _ _ _)⟩
          rw [vals_set]; exact (hm.out.1.stored _ _).1
        · rw [Hid, List.length_set]; exact hlen.out
        · exact hsm.out.set _ HQ.out
        · rw [Hid, List.take_set_of_le (Nat.le_refl k)]
          have := congrArg (List.take k) htk.out
          rw [List.take_take, List.take_take, Nat.min_eq_left (by omega)] at this
          exact this
        · have hzx : Z.getD k 0 = x := by
            have := congrArg (fun l : List Nat => l.getD k 0) htk.out
            simp only [List.getD_eq_getElem?_getD, List.getElem?_take] at this
            rw [if_pos (by omega), if_pos (by omega)] at this
            rw [Hx.out]
            simpa using this.symm
          rw [Hid, Nl.val_drop_succ _ _ (by rw [HNN.out]; omega), hzx, Nl.val_drop_succ (Z'.set k (s / d)) _ (by rw [List.length_set]; exact hkl), Nl.drop_set_succ, HS.out]
          rw [show (Z'.set k ((r * 4294967296 + x) / d)).getD k 0 = (r * 4294967296 + x) / d from by simp [hkl]]
          exact div_step hv.out
      case measure => simp [intOf] <;> omega


theorem owns_short {base : Nat} {w : World} {g n cap : Nat} {xs : List Nat} (h : w.ownsRow base 59 1 (.slice (some ⟨g, 0, none⟩) n cap) n (vals xs)) (k : Nat) (hk : k ≤ n) :
    w.ownsRow base 59 1 (.slice (some ⟨g, 0, none⟩) k cap) k (vals (xs.take k)) := by
  have hl := h.1
  rw [vals_length] at hl
  rcases h.2 with ⟨h', _⟩ | ⟨g', cap', cur, h', hb, hg, hnc, hcm, hcs, htake⟩
  · simp at h'
  · simp only [Value.slice.injEq, Option.some.injEq, Addr.mk.injEq, and_true, true_and] at h'
    obtain ⟨rfl, rfl⟩ := h'
    refine ⟨by rw [vals_length, List.length_take]; omega, .inr ⟨g, cap, cur, rfl, hb, hg, by omega, hcm, hcs, ?_⟩⟩
    rw [vals_take, ← htake, List.take_take, Nat.min_eq_left (by omega), Nat.mul_one]
theorem owns_slice {base : Nat} {w : World} {v : Value} {n : Nat} {L : List Value} {e : TypeId} (h : w.ownsRow base e 1 v n L) (hn : 0 < n) : ∃ g cap, v = .slice (some ⟨g, 0, none⟩) n cap ∧ base ≤ g ∧ g < w.heap.size ∧ n ≤ cap ∧ cap ≤ 9223372036854775807 := by
  rcases h.2 with ⟨_, h'⟩ | ⟨g', cap', cur, rfl, hb, hg, hnc, hcm, _⟩
  · omega
  · exact ⟨g', cap', rfl, hb, lt_of_block hg, hnc, by simp only [maxLen] at hcm; omega⟩

set_option maxHeartbeats 1000000 in
/-- a copy of a number that is not empty -/
theorem clone_any (v : Value) (xs : List Nat) (w : World) (h : At w v xs) (h0 : 0 < xs.length) (hl : xs.length ≤ 1000000) :
    Calls Tryz.prog 147 #[v] w fun e w' => (∃ v, e = .returned v ∧ w'.ownsRow w.heap.size 59 1 v xs.length (vals xs)) ∧ Below w.heap.size w w' := by
  obtain ⟨i0, hi, hz0, hz1, hz2⟩ := info_parts infoWord4
  have HI := Lib.hid (And.intro hi (And.intro hz0 (And.intro hz1 hz2)))
  clear hi hz0 hz1 hz2
  rcases h with ⟨rfl, rfl⟩ | ⟨b, off, cap, rfl, -, hc, hm, hb, hx⟩
  · simp at h0
  have HC := Lib.hid (show Cells w b off xs from hx)
  have HL := Lib.hid (And.intro h0 (And.intro hl hc))
  clear hx hl
  have hnil : ∀ W, (binOp .eql 69 (.slice (some ⟨b, off, none⟩) xs.length cap) (.slice none 0 0)).run Tryz.prog W = .ok (.bool false) W := fun W => by kernel_rfl
  go_enter Tryz.func147, Tryz.ntmps147
  go_wp2_with (at_builtin; refine wpList_append_own _ rfl (.tmp 5) (.tmp 6) 69 rfl w.heap.size 59 i0 (.int .u32 0) 1 4 Tryz.underlying69 HI.out.1 HI.out.2.1 HI.out.2.2.1 HI.out.2.2.2 rfl (by decide) (.slice (some ⟨w.heap.size, 0, none⟩) 0 0) 0 [] rfl (owns_empty w) ⟨b, off, none⟩ xs.length cap (vals xs) rfl ?_ ?_ ?_ ?_ ?_ ?_ ?_)
  · rw [vals_length, Nat.mul_one]
  · intro j u hu
    have := vals_cells (HC.out.alloc hb (.cells #[] 59)) xs.length j u
    rw [List.take_of_length_le (Nat.le_refl _)] at this
    exact this hu
  · intro u hu
    obtain ⟨x, _, rfl⟩ := List.mem_map.1 hu
    rfl
  · have := HL.out.2.1; simp only [maxLen]; omega
  · have := HL.out.2.1; omega
  · simp
  intro v' w1 ho hg _
  have HO := Lib.hid ho
  have h1 : Below w.heap.size w (w.alloc (.cells #[] 59)) := (Below.refl _ _).alloc (Nat.le_refl _) _
  have hbl : Below w.heap.size w w1 := by
    refine ⟨hg.os, hg.tape, hg.output, Nat.le_trans h1.size hg.size, fun q hq => ?_⟩
    rw [← h1.block q hq]
    exact hg.block q (by simp; omega) (by
      intro h
      have : q = w.heap.size := by simpa [Value.ownBlock] using h
      omega)
  have HB := Lib.hid hbl
  clear ho hg hbl h1
  go_wp2_with fail
  go_ret
  exact ⟨⟨v', rfl, HO.out⟩, HB.out⟩
end Go.Proofs.YtfaledeidjmooaaGreat
