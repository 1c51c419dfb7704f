/-
  What sureSteps of package whole does. Conditions: those that each theorem names.
-/
import Derived.Test.YtkbghamkalidcaaGreatLongAll
namespace Go.Proofs.YtkbghamkalidcaaGreat
open Go.RowKit

set_option maxRecDepth 10000 in
set_option maxHeartbeats 8000000 in
theorem sure_any (m n a b M r0 r1 : Nat) (w : World) (hm : m = a * M + r0) (hn : n = b * M + r1) (h0 : r0 < M) (h1 : r1 < M) (ha : a < 9223372036854775808) (hb : b < 9223372036854775808) :
    Calls Tryz.prog 180 #[.int .u64 a, .int .u64 b] w fun e w' => SureRet m n e ∧ Below w.heap.size w w' := by
  have HH := Lib.hid (And.intro hm (And.intro hn (And.intro h0 (And.intro h1 (And.intro ha hb)))))
  obtain ⟨g, hg⟩ : ∃ g, g = w.heap.size := ⟨_, rfl⟩
  obtain ⟨W, hW⟩ : ∃ W, W = ((w.alloc (.cells #[.int .u64 0, .int .u64 0, .int .u64 0] 191)).alloc (.cells #[.int .u64 a, .int .u64 1, .int .u64 0] 191)).alloc (.cells #[.int .u64 b, .int .u64 0, .int .u64 1] 191) := ⟨_, rfl⟩
  have hbW : Below w.heap.size w W := by rw [hW]; exact three_new w _ _ _
  have B0 : W.heap[g]? = some (.cells #[.int .u64 0, .int .u64 0, .int .u64 0] 191 (0, 0)) := by rw [hW, hg]; exact al_keep _ _ (by simp <;> omega) (al_keep _ _ (by simp <;> omega) (al_at _ _ (by simp)))
  have B1 : W.heap[g + 1]? = some (.cells #[.int .u64 a, .int .u64 1, .int .u64 0] 191 (0, 0)) := by rw [hW, hg]; exact al_keep _ _ (by simp <;> omega) (al_at _ _ (by simp))
  have B2 : W.heap[g + 2]? = some (.cells #[.int .u64 b, .int .u64 0, .int .u64 1] 191 (0, 0)) := by rw [hW, hg]; exact al_at _ _ (by simp)
  have HB := Lib.hid (show ShBox W g a b 1 from ⟨B0, B1, B2⟩)
  have HW := Lib.hid hbW
  clear hm hn h0 h1 hbW B0 B1 B2
  go_enter Tryz.func180, Tryz.ntmps180
  go_wp2_with fail
  rw [← hW, ← hg]
  have HG := Lib.hid hg
  clear hW hg ha hb
  go_loopw [6] (fun tv wr => ∃ i : Nat, 1 ≤ i ∧ tv = .bool (decide (i % 2 = 1)) ∧ Hid (ShBox wr g a b i) ∧ Hid (Sure m n a b i) ∧ Hid (Below w.heap.size w wr)) (fun _ wr => topN wr (g + 2))
  case atStart => exact ⟨1, Nat.le_refl _, rfl, HB.out, sure_one m n a b, HW.out⟩
  case round =>
    obtain ⟨i, hi, rfl, hbox, hsu, hbel⟩ := hrel
    have hend := sure_end hsu.out hi
    obtain ⟨F, hF⟩ : ∃ F, F = shrow a b (i - 1) := ⟨_, rfl⟩
    obtain ⟨S, hS⟩ : ∃ S, S = eros a b (i - 1) := ⟨_, rfl⟩
    obtain ⟨T, hT⟩ : ∃ T, T = eros a b i := ⟨_, rfl⟩
    have bF := hbox.out.first
    have bS := hbox.out.second
    have bT := hbox.out.third
    rw [← hF] at bF hend
    rw [← hS] at bS hend
    rw [← hT] at bT
    obtain ⟨f0, f1, f2⟩ := F
    obtain ⟨p2, x2, y2⟩ := S
    obtain ⟨p3, x3, y3⟩ := T
    have l2 : p2 < 9223372036854775808 := by have := (eros_rest_le a b HH.out.2.2.2.2.1 HH.out.2.2.2.2.2 (i - 1)).1; rw [← hS] at this; exact this
    have l3 : p3 < 9223372036854775808 := by have := (eros_rest_le a b HH.out.2.2.2.2.1 HH.out.2.2.2.2.2 i).1; rw [← hT] at this; exact this
    have kF0 := cell_of_row _ _ 0 _ _ (0, 0) bF
    have kF1 := cell_of_row _ _ 1 _ _ (0, 0) bF
    have kF2 := cell_of_row _ _ 2 _ _ (0, 0) bF
    have kS0 := cell_of_row _ _ 0 _ _ (0, 0) bS
    have kS1 := cell_of_row _ _ 1 _ _ (0, 0) bS
    have kS2 := cell_of_row _ _ 2 _ _ (0, 0) bS
    have kT0 := cell_of_row _ _ 0 _ _ (0, 0) bT
    have kT1 := cell_of_row _ _ 1 _ _ (0, 0) bT
    have kT2 := cell_of_row _ _ 2 _ _ (0, 0) bT
    simp only [shv, List.getElem?_toArray, List.getElem?_cons_zero, List.getElem?_cons_succ] at kF0 kF1 kF2 kS0 kS1 kS2 kT0 kT1 kT2
    have zF0 := frozen_of_row _ _ 0 _ _ bF
    have zF1 := frozen_of_row _ _ 1 _ _ bF
    have zF2 := frozen_of_row _ _ 2 _ _ bF
    have zS0 := frozen_of_row _ _ 0 _ _ bS
    have zS1 := frozen_of_row _ _ 1 _ _ bS
    have zS2 := frozen_of_row _ _ 2 _ _ bS
    have zT0 := frozen_of_row _ _ 0 _ _ bT
    have zT1 := frozen_of_row _ _ 1 _ _ bT
    have zT2 := frozen_of_row _ _ 2 _ _ bT
    have HBX := Lib.hid (And.intro bF (And.intro bS bT))
    have HEQ := Lib.hid (And.intro hF (And.intro hS hT))
    have HEND := Lib.hid hend
    have HMU := Lib.hid (topN_of bT)
    have HI := Lib.hid hi
    have ng1 : ¬ g = g + 1 := by omega
    have ng2 : ¬ g = g + 1 + 1 := by omega
    have ng3 : ¬ g + 1 = g := by omega
    have ng4 : ¬ g + 1 + 1 = g := by omega
    clear hbox bF bS bT hF hS hT hend
    have hout : ∀ V : World, V = wr → True := fun _ _ => trivial
    clear hout
    by_cases h1 : y3 ≤ p3
    · have hsum : p3 + y2 < 18446744073709551616 ∧ p3 + y2 + y3 < 18446744073709551616 := by
        have := sure_sum hsu.out hi HH.out.2.2.2.2.1 HH.out.2.2.2.2.2 (by rw [← HEQ.out.2.2]; exact h1)
        rw [← HEQ.out.2.2, ← HEQ.out.2.1] at this
        exact this
      obtain ⟨s1, hs1⟩ : ∃ s, s = p3 + y2 := ⟨_, rfl⟩
      obtain ⟨s2, hs2⟩ : ∃ s, s = s1 + y3 := ⟨_, rfl⟩
      have w1 : IntKind.u64.wrap ((p3 : Int) + (y2 : Int)) = (s1 : Int) := by rw [IntKind.wrap_u64]; omega
      have w2 : IntKind.u64.wrap ((s1 : Int) + (y3 : Int)) = (s2 : Int) := by rw [IntKind.wrap_u64]; omega
      have t1 : decide (y3 ≤ p3) = true := decide_eq_true h1
      have t1' : decide ((p3 : Int) ≥ (y3 : Int)) = true := decide_eq_true (by omega)
      have HS12 := Lib.hid (And.intro hs1 hs2)
      clear hsum hs1 hs2
      by_cases h2 : s2 ≤ p2
      · have t2 : decide (s2 ≤ p2) = true := decide_eq_true h2
        have t2' : decide ((p2 : Int) ≥ (s2 : Int)) = true := decide_eq_true (by omega)
        obtain ⟨k, rfl⟩ : ∃ k, i = k + 1 := ⟨i - 1, by omega⟩
        rw [show k + 1 - 1 = k from rfl] at HEQ
        have y31 : 1 ≤ y3 := by have := hsu.out.one; rw [← HEQ.out.2.2] at this; exact this
        obtain ⟨q, hq⟩ : ∃ q, q = p2 / p3 := ⟨_, rfl⟩
        obtain ⟨r4, hr4⟩ : ∃ r, r = p2 % p3 := ⟨_, rfl⟩
        have hwd := sure_words (q := q) HH.out.2.2.2.2.1 HH.out.2.2.2.2.2 (k := k) (by rw [hq, ← HEQ.out.2.1, ← HEQ.out.2.2]) (by rw [← HEQ.out.2.2]; show 0 < p3; omega)
        rw [← HEQ.out.2.1, ← HEQ.out.2.2] at hwd
        obtain ⟨d1, d2, d3, d4, d5, d6, d7⟩ := hwd
        replace d1 : (eros a b (k + 2)).1 = r4 := by rw [d1, hr4]
        obtain ⟨qx, hqx⟩ : ∃ x, x = q * x3 := ⟨_, rfl⟩
        obtain ⟨qy, hqy⟩ : ∃ x, x = q * y3 := ⟨_, rfl⟩
        obtain ⟨x4, hx4⟩ : ∃ x, x = x2 + qx := ⟨_, rfl⟩
        obtain ⟨y4, hy4⟩ : ∃ x, x = y2 + qy := ⟨_, rfl⟩
        replace d2 : qx < 18446744073709551616 := by rw [hqx]; exact d2
        replace d3 : qy < 18446744073709551616 := by rw [hqy]; exact d3
        replace d4 : (eros a b (k + 2)).2.1 = x4 := by rw [d4, hx4, hqx]
        replace d5 : (eros a b (k + 2)).2.2 = y4 := by rw [d5, hy4, hqy]
        rw [d4] at d6
        rw [d5] at d7
        have np3 : ¬ p3 = 0 := by omega
        have np3' : ¬ (p3 : Int) = 0 := by omega
        have hr4l : r4 < p3 := by rw [hr4]; exact Nat.mod_lt _ (by omega)
        have hql : q ≤ p2 := by rw [hq]; exact Nat.div_le_self _ _
        have v1 : IntKind.u64.wrap ((p2 : Int) / (p3 : Int)) = (q : Int) := by rw [IntKind.wrap_u64, hq]; omega
        have v2 : IntKind.u64.wrap ((p2 : Int) % (p3 : Int)) = (r4 : Int) := by rw [IntKind.wrap_u64, hr4]; omega
        have v2' : (p2 : Int).tmod (p3 : Int) = (r4 : Int) := by rw [hr4]; exact (Int.ofNat_tmod p2 p3).symm
        have v3 : IntKind.u64.wrap ((q : Int) * (x3 : Int)) = (qx : Int) := by rw [IntKind.wrap_u64, ← Int.natCast_mul, ← hqx]; omega
        have v4 : IntKind.u64.wrap ((q : Int) * (y3 : Int)) = (qy : Int) := by rw [IntKind.wrap_u64, ← Int.natCast_mul, ← hqy]; omega
        have v5 : IntKind.u64.wrap ((x2 : Int) + (qx : Int)) = (x4 : Int) := by rw [IntKind.wrap_u64]; omega
        have v6 : IntKind.u64.wrap ((y2 : Int) + (qy : Int)) = (y4 : Int) := by rw [IntKind.wrap_u64]; omega
        have HNX := Lib.hid (And.intro (show eros a b (k + 2) = (r4, x4, y4) from Prod.ext d1 (Prod.ext d4 d5)) hr4l)
        have HSX := Lib.hid (sure_next hsu.out HI.out HH.out.1 HH.out.2.1 HH.out.2.2.1 HH.out.2.2.2.1 HH.out.2.2.2.2.1 (by rw [← HEQ.out.2.2]; exact h1) (by rw [show k + 1 - 1 = k from rfl, ← HEQ.out.2.2, ← HEQ.out.2.1]; have := HS12.out; show p3 + y2 + y3 ≤ p2; omega))
        clear hq hr4 hqx hqy hx4 hy4 d1 d2 d3 d4 d5 d6 d7 hr4l hql y31 hsu
        go_wp2_with fail
        try rw [v1]
        obtain ⟨bF, bS, bT⟩ := HBX.out
        refine wp_region_until [(23, g + 1, .cells #[.int .u64 (p2 : Nat), .int .u64 (x2 : Nat), .int .u64 (y2 : Nat)] 191 (0, 0)), (24, g + 2, .cells #[.int .u64 (p3 : Nat), .int .u64 (x3 : Nat), .int .u64 (y3 : Nat)] 191 (0, 0))] (by kernel_rfl) (until_two (fun _ => bS) (fun _ => bT)) (fun hU => ?_)
        refine wpU_take (i := 0) (v := ?_) [23] rfl (by kernel_rfl) (by kernel_rfl) (by kernel_rfl) (by kernel_rfl) (by kernel_rfl) (fun _ _ _ h => h) (Or.inl ⟨by rfl, ?_⟩) hU (fun hU0 => ?_)
        rotate_left
        · intro w hSw
          have e := hSw.fst (by decide)
          have e0 := cell_of_row _ _ 0 _ _ (0, 0) e
          have e1 := cell_of_row _ _ 1 _ _ (0, 0) e
          have e2 := cell_of_row _ _ 2 _ _ (0, 0) e
          simp only [List.getElem?_toArray, List.getElem?_cons_zero, List.getElem?_cons_succ] at e0 e1 e2
          go_simp
          try (with_reducible rfl)
        clear hU
        try simp only [Act.put, List.setIfInBounds_toArray]
        refine wpU_take (i := 1) (v := ?_) [24] rfl (by kernel_rfl) (by kernel_rfl) (by kernel_rfl) (by kernel_rfl) (by kernel_rfl) (fun _ _ _ h => h) (Or.inl ⟨by rfl, ?_⟩) hU0 (fun hU1 => ?_)
        rotate_left
        · intro w hSw
          have e := hSw.snd (by decide)
          have e0 := cell_of_row _ _ 0 _ _ (0, 0) e
          have e1 := cell_of_row _ _ 1 _ _ (0, 0) e
          have e2 := cell_of_row _ _ 2 _ _ (0, 0) e
          simp only [List.getElem?_toArray, List.getElem?_cons_zero, List.getElem?_cons_succ] at e0 e1 e2
          go_simp
          try (with_reducible rfl)
        clear hU0
        try simp only [Act.put]
        refine wpU_take (i := 2) (v := ?_) [] rfl (by kernel_rfl) (by kernel_rfl) (by kernel_rfl) (by kernel_rfl) (by kernel_rfl) (fun _ _ _ h => h) (Or.inl ⟨by rfl, ?_⟩) hU1 (fun hU2 => ?_)
        rotate_left
        · intro w hSw
          go_simp
          try (with_reducible rfl)
        clear hU1
        try simp only [Act.put]
        refine wpU_take (i := 3) (v := ?_) [23] rfl (by kernel_rfl) (by kernel_rfl) (by kernel_rfl) (by kernel_rfl) (by kernel_rfl) (fun _ _ _ h => h) (Or.inl ⟨by rfl, ?_⟩) hU2 (fun hU3 => ?_)
        rotate_left
        · intro w hSw
          have e := hSw.fst (by decide)
          have e0 := cell_of_row _ _ 0 _ _ (0, 0) e
          have e1 := cell_of_row _ _ 1 _ _ (0, 0) e
          have e2 := cell_of_row _ _ 2 _ _ (0, 0) e
          simp only [List.getElem?_toArray, List.getElem?_cons_zero, List.getElem?_cons_succ] at e0 e1 e2
          go_simp
          try (with_reducible rfl)
        clear hU2
        try simp only [Act.put]
        refine wpU_take (i := 4) (v := ?_) [] rfl (by kernel_rfl) (by kernel_rfl) (by kernel_rfl) (by kernel_rfl) (by kernel_rfl) (fun _ _ _ h => h) (Or.inl ⟨by rfl, ?_⟩) hU3 (fun hU4 => ?_)
        rotate_left
        · intro w hSw
          go_simp
          try (with_reducible rfl)
        clear hU3
        try simp only [Act.put]
        refine wpU_take (i := 5) (v := ?_) [24] rfl (by kernel_rfl) (by kernel_rfl) (by kernel_rfl) (by kernel_rfl) (by kernel_rfl) (fun _ _ _ h => h) (Or.inl ⟨by rfl, ?_⟩) hU4 (fun hU5 => ?_)
        rotate_left
        · intro w hSw
          have e := hSw.snd (by decide)
          have e0 := cell_of_row _ _ 0 _ _ (0, 0) e
          have e1 := cell_of_row _ _ 1 _ _ (0, 0) e
          have e2 := cell_of_row _ _ 2 _ _ (0, 0) e
          simp only [List.getElem?_toArray, List.getElem?_cons_zero, List.getElem?_cons_succ] at e0 e1 e2
          go_simp
          try (with_reducible rfl)
        clear hU4
        try simp only [Act.put]
        refine wpU_take (i := 6) (v := ?_) [] rfl (by kernel_rfl) (by kernel_rfl) (by kernel_rfl) (by kernel_rfl) (by kernel_rfl) (fun _ _ _ h => h) (Or.inl ⟨by rfl, ?_⟩) hU5 (fun hU6 => ?_)
        rotate_left
        · intro w hSw
          go_simp
          try (with_reducible rfl)
        clear hU5
        try simp only [Act.put]
        refine wpU_take (i := 7) (v := ?_) [] rfl (by kernel_rfl) (by kernel_rfl) (by kernel_rfl) (by kernel_rfl) (by kernel_rfl) (fun _ _ _ h => h) (Or.inl ⟨by rfl, ?_⟩) hU6 (fun hU7 => ?_)
        rotate_left
        · intro w hSw
          go_simp
          try (with_reducible rfl)
        clear hU6
        try simp only [Act.put]
        refine wpU_take (i := 8) (v := ?_) [23] rfl (by kernel_rfl) (by kernel_rfl) (by kernel_rfl) (by kernel_rfl) (by kernel_rfl) (fun _ _ _ h => h) (Or.inl ⟨by rfl, ?_⟩) hU7 (fun hU8 => ?_)
        rotate_left
        · intro w hSw
          have e := hSw.fst (by decide)
          have e0 := cell_of_row _ _ 0 _ _ (0, 0) e
          have e1 := cell_of_row _ _ 1 _ _ (0, 0) e
          have e2 := cell_of_row _ _ 2 _ _ (0, 0) e
          simp only [List.getElem?_toArray, List.getElem?_cons_zero, List.getElem?_cons_succ] at e0 e1 e2
          go_simp
          try (with_reducible rfl)
        clear hU7
        try simp only [Act.put]
        refine wpU_take (i := 9) (v := ?_) [] rfl (by kernel_rfl) (by kernel_rfl) (by kernel_rfl) (by kernel_rfl) (by kernel_rfl) (fun _ _ _ h => h) (Or.inl ⟨by rfl, ?_⟩) hU8 (fun hU9 => ?_)
        rotate_left
        · intro w hSw
          go_simp
          try (with_reducible rfl)
        clear hU8
        try simp only [Act.put]
        refine wpU_take (i := 10) (v := ?_) [] rfl (by kernel_rfl) (by kernel_rfl) (by kernel_rfl) (by kernel_rfl) (by kernel_rfl) (fun _ _ _ h => h) (Or.inl ⟨by rfl, ?_⟩) hU9 (fun hU10 => ?_)
        rotate_left
        · intro w hSw
          go_simp
          try (with_reducible rfl)
        clear hU9
        try simp only [Act.put]
        refine wpU_take (i := 11) (v := ?_) [24] rfl (by kernel_rfl) (by kernel_rfl) (by kernel_rfl) (by kernel_rfl) (by kernel_rfl) (fun _ _ _ h => h) (Or.inl ⟨by rfl, ?_⟩) hU10 (fun hU11 => ?_)
        rotate_left
        · intro w hSw
          have e := hSw.snd (by decide)
          have e0 := cell_of_row _ _ 0 _ _ (0, 0) e
          have e1 := cell_of_row _ _ 1 _ _ (0, 0) e
          have e2 := cell_of_row _ _ 2 _ _ (0, 0) e
          simp only [List.getElem?_toArray, List.getElem?_cons_zero, List.getElem?_cons_succ] at e0 e1 e2
          go_simp
          try (with_reducible rfl)
        clear hU10
        try simp only [Act.put]
        refine wpU_take (i := 12) (v := ?_) [] rfl (by kernel_rfl) (by kernel_rfl) (by kernel_rfl) (by kernel_rfl) (by kernel_rfl) (fun _ _ _ h => h) (Or.inl ⟨by rfl, ?_⟩) hU11 (fun hU12 => ?_)
        rotate_left
        · intro w hSw
          go_simp
          try (with_reducible rfl)
        clear hU11
        try simp only [Act.put]
        refine wpU_take (i := 13) (v := ?_) [] rfl (by kernel_rfl) (by kernel_rfl) (by kernel_rfl) (by kernel_rfl) (by kernel_rfl) (fun _ _ _ h => h) (Or.inl ⟨by rfl, ?_⟩) hU12 (fun hU13 => ?_)
        rotate_left
        · intro w hSw
          go_simp
          try (with_reducible rfl)
        clear hU12
        try simp only [Act.put]
        refine wpU_take (i := 14) (v := ?_) [] rfl (by kernel_rfl) (by kernel_rfl) (by kernel_rfl) (by kernel_rfl) (by kernel_rfl) (fun _ _ _ h => h) (Or.inl ⟨by rfl, ?_⟩) hU13 (fun hU14 => ?_)
        rotate_left
        · intro w hSw
          go_simp
          try (with_reducible rfl)
        clear hU13
        try simp only [Act.put]
        refine wpU_take (i := 15) (v := ?_) [23] rfl (by kernel_rfl) (by kernel_rfl) (by kernel_rfl) (by kernel_rfl) (by kernel_rfl) (fun _ _ _ h => h) (Or.inl ⟨by rfl, ?_⟩) hU14 (fun hU15 => ?_)
        rotate_left
        · intro w hSw
          have e := hSw.fst (by decide)
          have e0 := cell_of_row _ _ 0 _ _ (0, 0) e
          have e1 := cell_of_row _ _ 1 _ _ (0, 0) e
          have e2 := cell_of_row _ _ 2 _ _ (0, 0) e
          simp only [List.getElem?_toArray, List.getElem?_cons_zero, List.getElem?_cons_succ] at e0 e1 e2
          go_simp
          try (with_reducible rfl)
        clear hU14
        try simp only [Act.put]
        refine wpU_take (i := 16) (v := ?_) [] rfl (by kernel_rfl) (by kernel_rfl) (by kernel_rfl) (by kernel_rfl) (by kernel_rfl) (fun _ _ _ h => h) (Or.inl ⟨by rfl, ?_⟩) hU15 (fun hU16 => ?_)
        rotate_left
        · intro w hSw
          go_simp
          try (with_reducible rfl)
        clear hU15
        try simp only [Act.put]
        refine wpU_take (i := 17) (v := ?_) [] rfl (by kernel_rfl) (by kernel_rfl) (by kernel_rfl) (by kernel_rfl) (by kernel_rfl) (fun _ _ _ h => h) (Or.inl ⟨by rfl, ?_⟩) hU16 (fun hU17 => ?_)
        rotate_left
        · intro w hSw
          go_simp
          try (with_reducible rfl)
        clear hU16
        try simp only [Act.put]
        refine wpU_take (i := 18) (v := ?_) [24] rfl (by kernel_rfl) (by kernel_rfl) (by kernel_rfl) (by kernel_rfl) (by kernel_rfl) (fun _ _ _ h => h) (Or.inl ⟨by rfl, ?_⟩) hU17 (fun hU18 => ?_)
        rotate_left
        · intro w hSw
          have e := hSw.snd (by decide)
          have e0 := cell_of_row _ _ 0 _ _ (0, 0) e
          have e1 := cell_of_row _ _ 1 _ _ (0, 0) e
          have e2 := cell_of_row _ _ 2 _ _ (0, 0) e
          simp only [List.getElem?_toArray, List.getElem?_cons_zero, List.getElem?_cons_succ] at e0 e1 e2
          go_simp
          try (with_reducible rfl)
        clear hU17
        try simp only [Act.put]
        refine wpU_take (i := 19) (v := ?_) [] rfl (by kernel_rfl) (by kernel_rfl) (by kernel_rfl) (by kernel_rfl) (by kernel_rfl) (fun _ _ _ h => h) (Or.inl ⟨by rfl, ?_⟩) hU18 (fun hU19 => ?_)
        rotate_left
        · intro w hSw
          go_simp
          try (with_reducible rfl)
        clear hU18
        try simp only [Act.put]
        refine wpU_take (i := 20) (v := ?_) [] rfl (by kernel_rfl) (by kernel_rfl) (by kernel_rfl) (by kernel_rfl) (by kernel_rfl) (fun _ _ _ h => h) (Or.inl ⟨by rfl, ?_⟩) hU19 (fun hU20 => ?_)
        rotate_left
        · intro w hSw
          go_simp
          try (with_reducible rfl)
        clear hU19
        try simp only [Act.put]
        refine wpU_take (i := 21) (v := ?_) [] rfl (by kernel_rfl) (by kernel_rfl) (by kernel_rfl) (by kernel_rfl) (by kernel_rfl) (fun _ _ _ h => h) (Or.inl ⟨by rfl, ?_⟩) hU20 (fun hU21 => ?_)
        rotate_left
        · intro w hSw
          go_simp
          try (with_reducible rfl)
        clear hU20
        try simp only [Act.put]
        refine wpU_next (i := 22) (by kernel_rfl) rfl (fun K hK => ?_)
        go_simp
        refine hK.out _ _ (until_two (fun _ => (row3_other _ _ _ (by omega)).trans bS) (fun _ => (row3_other _ _ _ (by omega)).trans bT)) (fun hU22 => ?_)
        clear hK K hU21
        try simp only [Act.put, List.setIfInBounds_toArray, List.set_cons_zero, List.set_cons_succ]
        obtain ⟨V1, hV1⟩ : ∃ V1, V1 = ((wr.setCell ⟨g, 0, none⟩ (.int .u64 (p2 : Nat))).setCell ⟨g, 1, none⟩ (.int .u64 (x2 : Nat))).setCell ⟨g, 2, none⟩ (.int .u64 (y2 : Nat)) := ⟨_, rfl⟩
        rw [← hV1]
        have A0 : V1.heap[g]? = some (.cells #[.int .u64 (p2 : Nat), .int .u64 (x2 : Nat), .int .u64 (y2 : Nat)] 191 (0, 0)) := by rw [hV1]; exact row_set _ _ _ bF
        have A1 : V1.heap[g + 1]? = some (.cells #[.int .u64 (p2 : Nat), .int .u64 (x2 : Nat), .int .u64 (y2 : Nat)] 191 (0, 0)) := by rw [hV1]; exact (row3_other _ _ _ (by omega)).trans bS
        have A2 : V1.heap[g + 2]? = some (.cells #[.int .u64 (p3 : Nat), .int .u64 (x3 : Nat), .int .u64 (y3 : Nat)] 191 (0, 0)) := by rw [hV1]; exact (row3_other _ _ _ (by omega)).trans bT
        have AB : Below w.heap.size w V1 := by rw [hV1]; exact below_row hbel.out (by rw [HG.out]; exact Nat.le_refl _) _ _ _
        clear hU22 hV1 kF0 kF1 kF2 kS0 kS1 kS2 kT0 kT1 kT2 zF0 zF1 zF2 zS0 zS1 zS2 zT0 zT1 zT2
        have kS0 := cell_of_row _ _ 0 _ _ (0, 0) A1
        have kS1 := cell_of_row _ _ 1 _ _ (0, 0) A1
        have kS2 := cell_of_row _ _ 2 _ _ (0, 0) A1
        simp only [List.getElem?_toArray, List.getElem?_cons_zero, List.getElem?_cons_succ] at kS0 kS1 kS2
        have zS0 := frozen_of_row _ _ 0 _ _ A1
        have zS1 := frozen_of_row _ _ 1 _ _ A1
        have zS2 := frozen_of_row _ _ 2 _ _ A1
        refine wpU_next (i := 23) (by kernel_rfl) rfl (fun K hK => ?_)
        go_simp
        refine hK.out _ _ (until_two (until_past (by kernel_rfl)) (fun _ => (row3_other _ _ _ (by omega)).trans A2)) (fun hU23 => ?_)
        clear hK K
        try simp only [Act.put, List.setIfInBounds_toArray, List.set_cons_zero, List.set_cons_succ]
        obtain ⟨V2, hV2⟩ : ∃ V2, V2 = ((V1.setCell ⟨g + 1, 0, none⟩ (.int .u64 (p3 : Nat))).setCell ⟨g + 1, 1, none⟩ (.int .u64 (x3 : Nat))).setCell ⟨g + 1, 2, none⟩ (.int .u64 (y3 : Nat)) := ⟨_, rfl⟩
        rw [← hV2]
        have C0 : V2.heap[g]? = some (.cells #[.int .u64 (p2 : Nat), .int .u64 (x2 : Nat), .int .u64 (y2 : Nat)] 191 (0, 0)) := by rw [hV2]; exact (row3_other _ _ _ (by omega)).trans A0
        have C1 : V2.heap[g + 1]? = some (.cells #[.int .u64 (p3 : Nat), .int .u64 (x3 : Nat), .int .u64 (y3 : Nat)] 191 (0, 0)) := by rw [hV2]; exact row_set (g := g + 1) _ _ _ A1
        have C2 : V2.heap[g + 2]? = some (.cells #[.int .u64 (p3 : Nat), .int .u64 (x3 : Nat), .int .u64 (y3 : Nat)] 191 (0, 0)) := by rw [hV2]; exact (row3_other _ _ _ (by omega)).trans A2
        have CB : Below w.heap.size w V2 := by rw [hV2]; exact below_row AB (g := g + 1) (by rw [HG.out]; omega) _ _ _
        clear hU23 hV2 kS0 kS1 kS2 zS0 zS1 zS2 A0 A1 A2 AB
        have kT0 := cell_of_row _ _ 0 _ _ (0, 0) C2
        have kT1 := cell_of_row _ _ 1 _ _ (0, 0) C2
        have kT2 := cell_of_row _ _ 2 _ _ (0, 0) C2
        simp only [List.getElem?_toArray, List.getElem?_cons_zero, List.getElem?_cons_succ] at kT0 kT1 kT2
        have zT0 := frozen_of_row _ _ 0 _ _ C2
        have zT1 := frozen_of_row _ _ 1 _ _ C2
        have zT2 := frozen_of_row _ _ 2 _ _ C2
        refine wpU_next (i := 24) (by kernel_rfl) rfl (fun K hK => ?_)
        go_simp
        refine hK.out _ _ (until_two (until_past (by kernel_rfl)) (until_past (by kernel_rfl))) (fun hU24 => ?_)
        clear hK K hU24
        try simp only [Act.put, List.setIfInBounds_toArray, List.set_cons_zero, List.set_cons_succ]
        refine wpU_done (by kernel_rfl) ?_ _
        try rw [v2']
        obtain ⟨V, hV⟩ : ∃ V, V = ((V2.setCell ⟨g + 2, 0, none⟩ (.int .u64 (r4 : Nat))).setCell ⟨g + 2, 1, none⟩ (.int .u64 (x4 : Nat))).setCell ⟨g + 2, 2, none⟩ (.int .u64 (y4 : Nat)) := ⟨_, rfl⟩
        rw [← hV]
        have V0 : V.heap[g]? = some (.cells #[.int .u64 (p2 : Nat), .int .u64 (x2 : Nat), .int .u64 (y2 : Nat)] 191 (0, 0)) := by rw [hV]; exact (row3_other _ _ _ (by omega)).trans C0
        have V1' : V.heap[g + 1]? = some (.cells #[.int .u64 (p3 : Nat), .int .u64 (x3 : Nat), .int .u64 (y3 : Nat)] 191 (0, 0)) := by rw [hV]; exact (row3_other _ _ _ (by omega)).trans C1
        have V2' : V.heap[g + 2]? = some (.cells #[.int .u64 (r4 : Nat), .int .u64 (x4 : Nat), .int .u64 (y4 : Nat)] 191 (0, 0)) := by rw [hV]; exact row_set (g := g + 2) _ _ _ C2
        have VB : Below w.heap.size w V := by rw [hV]; exact below_row CB (g := g + 2) (by rw [HG.out]; omega) _ _ _
        have HVV := Lib.hid (And.intro V0 (And.intro V1' (And.intro V2' VB)))
        clear hV V0 V1' V2' VB C0 C1 C2 CB bF bS bT kT0 kT1 kT2 zT0 zT1 zT2 ng1 ng2 ng3 ng4 v1 v2 v2' v3 v4 v5 v6 w1 w2 t1 t1' t2 t2'
        go_wp2_with fail
        go_roundw
        case rel =>
          exact ⟨k + 1 + 1, by omega, by rw [parity_next (k + 1)], ⟨by rw [show k + 1 + 1 - 1 = k + 1 from rfl, shrow, ← HEQ.out.2.1]; exact HVV.out.1, by rw [show k + 1 + 1 - 1 = k + 1 from rfl, ← HEQ.out.2.2]; exact HVV.out.2.1, by rw [show k + 1 + 1 = k + 2 from rfl, HNX.out.1]; exact HVV.out.2.2.1⟩, HSX.out, HVV.out.2.2.2.trans (below_drewN V 1 _)⟩
        case measure =>
          rw [HMU.out, topN_of (R := (r4, x4, y4)) (show ShAt V.drew (g + 2) _ from HVV.out.2.2.1)]
          exact HNX.out.2
      · have t2 : decide (s2 ≤ p2) = false := decide_eq_false h2
        have t2' : decide ((p2 : Int) ≥ (s2 : Int)) = false := decide_eq_false (by omega)
        go_wp2_with fail
        obtain ⟨bF, bS, bT⟩ := HBX.out
        have Y1 : (((wr.setCell ⟨g, 0, none⟩ (.int .u64 (f0 : Nat))).setCell ⟨g, 1, none⟩ (.int .u64 (f1 : Nat))).setCell ⟨g, 2, none⟩ (.int .u64 (f2 : Nat))).heap[g + 1]? = some (.cells #[.int .u64 (p2 : Nat), .int .u64 (x2 : Nat), .int .u64 (y2 : Nat)] 191 (0, 0)) := (row3_other _ _ _ (by omega)).trans bS
        have q0 := cell_of_row _ _ 0 _ _ (0, 0) Y1
        have q1 := cell_of_row _ _ 1 _ _ (0, 0) Y1
        have q2 := cell_of_row _ _ 2 _ _ (0, 0) Y1
        simp only [List.getElem?_toArray, List.getElem?_cons_zero, List.getElem?_cons_succ] at q0 q1 q2
        have y0 := frozen_of_row _ _ 0 _ _ Y1
        have y1 := frozen_of_row _ _ 1 _ _ Y1
        have y2' := frozen_of_row _ _ 2 _ _ Y1
        go_region
        obtain ⟨V, hV⟩ : ∃ V, V = (((((wr.setCell ⟨g, 0, none⟩ (.int .u64 (f0 : Nat))).setCell ⟨g, 1, none⟩ (.int .u64 (f1 : Nat))).setCell ⟨g, 2, none⟩ (.int .u64 (f2 : Nat))).setCell ⟨g + 1, 0, none⟩ (.int .u64 (p2 : Nat))).setCell ⟨g + 1, 1, none⟩ (.int .u64 (x2 : Nat))).setCell ⟨g + 1, 2, none⟩ (.int .u64 (y2 : Nat)) := ⟨_, rfl⟩
        obtain ⟨V0, V1, VB⟩ := sh_leave bF bS hV
        rw [← hV]
        have HVV := Lib.hid (And.intro V0 (And.intro V1 (VB w.heap.size w (by rw [HG.out]; exact Nat.le_refl _) hbel.out)))
        clear hV V0 V1 VB Y1 q0 q1 q2 y0 y1 y2' bF bS bT
        go_wp2_with fail
        refine bodyPost_ret (v := .tuple #[.agg (shv (f0, f1, f2)), .agg (shv (p2, x2, y2)), .bool (decide (i % 2 = 1))]) (results_int21 Tryz.results180 _ _ g (g + 1) _ _ _ rfl rfl rfl
          (run_loadVar_row (World.drew _) _ _ 191 _ (0, 0) _ HVV.out.1 Tryz.underlying191 rfl (by kernel_rfl)) (run_loadVar_row (World.drew _) _ _ 191 _ (0, 0) _ HVV.out.2.1 Tryz.underlying191 rfl (by kernel_rfl))) rfl ?_
        exact ⟨⟨(f0, f1, f2), (p2, x2, y2), decide (i % 2 = 1), rfl, HEND.out⟩, HVV.out.2.2.trans (below_drewN V 1 _)⟩
    · have t1 : decide (y3 ≤ p3) = false := decide_eq_false h1
      have t1' : decide ((p3 : Int) ≥ (y3 : Int)) = false := decide_eq_false (by omega)
      go_wp2_with fail
      obtain ⟨bF, bS, bT⟩ := HBX.out
      have Y1 : (((wr.setCell ⟨g, 0, none⟩ (.int .u64 (f0 : Nat))).setCell ⟨g, 1, none⟩ (.int .u64 (f1 : Nat))).setCell ⟨g, 2, none⟩ (.int .u64 (f2 : Nat))).heap[g + 1]? = some (.cells #[.int .u64 (p2 : Nat), .int .u64 (x2 : Nat), .int .u64 (y2 : Nat)] 191 (0, 0)) := (row3_other _ _ _ (by omega)).trans bS
      have q0 := cell_of_row _ _ 0 _ _ (0, 0) Y1
      have q1 := cell_of_row _ _ 1 _ _ (0, 0) Y1
      have q2 := cell_of_row _ _ 2 _ _ (0, 0) Y1
      simp only [List.getElem?_toArray, List.getElem?_cons_zero, List.getElem?_cons_succ] at q0 q1 q2
      have y0 := frozen_of_row _ _ 0 _ _ Y1
      have y1 := frozen_of_row _ _ 1 _ _ Y1
      have y2' := frozen_of_row _ _ 2 _ _ Y1
      go_region
      obtain ⟨V, hV⟩ : ∃ V, V = (((((wr.setCell ⟨g, 0, none⟩ (.int .u64 (f0 : Nat))).setCell ⟨g, 1, none⟩ (.int .u64 (f1 : Nat))).setCell ⟨g, 2, none⟩ (.int .u64 (f2 : Nat))).setCell ⟨g + 1, 0, none⟩ (.int .u64 (p2 : Nat))).setCell ⟨g + 1, 1, none⟩ (.int .u64 (x2 : Nat))).setCell ⟨g + 1, 2, none⟩ (.int .u64 (y2 : Nat)) := ⟨_, rfl⟩
      obtain ⟨V0, V1, VB⟩ := sh_leave bF bS hV
      rw [← hV]
      have HVV := Lib.hid (And.intro V0 (And.intro V1 (VB w.heap.size w (by rw [HG.out]; exact Nat.le_refl _) hbel.out)))
      clear hV V0 V1 VB Y1 q0 q1 q2 y0 y1 y2' bF bS bT
      go_wp2_with fail
      refine bodyPost_ret (v := .tuple #[.agg (shv (f0, f1, f2)), .agg (shv (p2, x2, y2)), .bool (decide (i % 2 = 1))]) (results_int21 Tryz.results180 _ _ g (g + 1) _ _ _ rfl rfl rfl
        (run_loadVar_row (World.drew _) _ _ 191 _ (0, 0) _ HVV.out.1 Tryz.underlying191 rfl (by kernel_rfl)) (run_loadVar_row (World.drew _) _ _ 191 _ (0, 0) _ HVV.out.2.1 Tryz.underlying191 rfl (by kernel_rfl))) rfl ?_
      exact ⟨⟨(f0, f1, f2), (p2, x2, y2), decide (i % 2 = 1), rfl, HEND.out⟩, HVV.out.2.2.trans (below_drewN V 1 _)⟩
end Go.Proofs.YtkbghamkalidcaaGreat
