/-
  What Wrap of package whole does. Written by wip/tool/genops2.py. Conditions: those that each theorem names.
  What Shift of package whole does where the result fits. Written by wip/tool/genops2.py. Conditions: those that each theorem names.
-/
import Derived.Test.YtipjbnbmackidaaGreatWrapI
import Derived.Test.YtipjbnbmackidaaGreatWholeOps
import Derived.Test.YtipjbnbmackidaaGreatShiftIAll
namespace Go.Proofs.YtipjbnbmackidaaGreat
open Go.RowKit

/-- what a call gives: an integer, or an error; k: the work's own error -/
def ResK (w w' : World) (e : Ending) (ok : Bool) (k n : Int) : Prop := ∃ c, c = (if ok = true then codeI k n else 1) ∧ WOut w w' e c n
def wrapK (n : Int) : Int := if 1 ≤ n ∧ n ≤ 4096 then 0 else 1
set_option maxHeartbeats 2000000 in
theorem Wrap_1_does (s0 : Bool) (p0 : Option Addr) (l0 c0 : Nat) (a : Int) (n : Int) (sg : Bool) (K : Nat) (w : World) (h0 : BoxI w K s0 p0 l0 c0) (g0 : IsI w (.agg #[.bool s0, .slice p0 l0 c0]) a) (hn : w.heap[K + 1]? = some (.cells #[.int .i64 n] 3 (0, 0))) (hs : w.heap[K + 2]? = some (.cells #[.bool sg] 4 (0, 0))) :
    IntDoes 121 #[.pointer (some ⟨K + 1, 0, none⟩), .pointer (some ⟨K, 0, none⟩), .pointer (some ⟨K + 2, 0, none⟩)] w (wrapK n) (Nl.wrapI a n.toNat sg) := by
  intro W hW
  obtain ⟨V, hV⟩ : ∃ V, V = W.alloc (.cells #[.bool false, .slice none 0 0] 87) := ⟨_, rfl⟩
  have hbV : Below W.heap.size W V := by rw [hV]; exact below_one W _
  have hQ : V.heap[W.heap.size]? = some (.cells #[.bool false, .slice none 0 0] 87 (0, 0)) := by rw [hV]; exact heap_alloc_new _ _
  have bh0 := (hbV.block _ (Nat.lt_of_lt_of_le (lt_of_block h0) hW.size)).trans ((hW.block _ (lt_of_block h0)).trans h0)
  have kh00 := cell_of_row _ _ 0 _ _ (0, 0) bh0
  have kh01 := cell_of_row _ _ 1 _ _ (0, 0) bh0
  have bhn := (hbV.block _ (Nat.lt_of_lt_of_le (lt_of_block hn) hW.size)).trans ((hW.block _ (lt_of_block hn)).trans hn)
  have khn0 := cell_of_row _ _ 0 _ _ (0, 0) bhn
  have bhs := (hbV.block _ (Nat.lt_of_lt_of_le (lt_of_block hs) hW.size)).trans ((hW.block _ (lt_of_block hs)).trans hs)
  have khs0 := cell_of_row _ _ 0 _ _ (0, 0) bhs
  simp only [List.getElem?_toArray, List.getElem?_cons_zero, List.getElem?_cons_succ] at kh00 kh01 khn0 khs0
  have HV := Lib.hid (And.intro hbV hQ)
  have hi0 := (g0.below hW).below hbV
  rw [hV] at kh00 kh01 khn0 khs0
  clear h0 hn hs g0 bh0 bhn bhs hW hbV hQ
  by_cases h1 : 1 ≤ n ∧ n ≤ 4096
  · obtain ⟨m, rfl⟩ : ∃ m : Nat, n = m := ⟨n.toNat, by omega⟩
    have HK := Lib.hid (show wrapK m = 0 from if_pos h1)
    have t1 : decide ((m : Int) ≥ 1) = true := decide_eq_true h1.1
    have t2 : decide ((m : Int) ≤ 4096) = true := decide_eq_true h1.2
    have HC := Lib.hid (wrapped_any _ a m sg V hi0 (by omega) (by omega))
    clear hi0 h1
    go_enter Tryz.func121, Tryz.ntmps121
    go_wp2_with (go_at_call 103; refine (must_yes _ _).mono ?_; rintro e w' ⟨rfl, rfl⟩)
    rw [← hV]
    clear hV
    refine HC.out.mono ?_
    rintro e w1 ⟨⟨t, a', l', c', rfl, hi⟩, hb1⟩
    clear kh00 kh01 khn0 khs0
    have BQ := (hb1.block _ (lt_of_block HV.out.2)).trans HV.out.2
    have f0 := frozen_of_row _ _ 0 _ _ BQ
    have f1 := frozen_of_row _ _ 1 _ _ BQ
    have g0 := cell_of_row _ _ 0 _ _ (0, 0) BQ
    have g1 := cell_of_row _ _ 1 _ _ (0, 0) BQ
    have HH := Lib.hid (And.intro hi (And.intro hb1 BQ))
    clear hi hb1 BQ HC
    go_wp2_with fail
    refine bodyPost_ret (v := .agg #[.bool t, .slice a' l' c']) (results_cell_row Tryz.results121 _ _ W.heap.size 87 _ (0, 0) _ rfl (ibox_set _ _ HH.out.2.2) Tryz.underlying87 rfl (by kernel_rfl)) rfl ?_
    refine ⟨below_ibox (HV.out.1.trans (HH.out.2.1.mono HV.out.1.size)) (Nat.le_refl _) _ _, .inl ⟨HK.out, _, rfl, ?_⟩⟩
    obtain ⟨v5, e5, hv5⟩ := HH.out.1
    exact ⟨v5, e5, at_ibox _ _ hv5 HH.out.2.2⟩

  · have HK := Lib.hid (show wrapK n = 1 from if_neg h1)
    by_cases h2 : n ≥ 1
    · have t1 : decide (n ≥ 1) = true := decide_eq_true h2
      have t2 : decide (n ≤ 4096) = false := decide_eq_false (fun h => h1 ⟨h2, h⟩)
      clear h1 h2
      go_enter Tryz.func121, Tryz.ntmps121
      go_wp2_with (go_at_call 103; refine (must_no _ _).mono ?_; rintro e w' ⟨rfl, rfl⟩)
      rw [← hV]
      first
        | exact ⟨rfl, HV.out.1, .inr ⟨by rw [HK.out]; decide, by rw [HK.out]⟩⟩
        | exact ⟨HV.out.1, .inr ⟨by rw [HK.out]; decide, by rw [HK.out]⟩⟩
    · have t1 : decide (n ≥ 1) = false := decide_eq_false h2
      clear h1 h2
      go_enter Tryz.func121, Tryz.ntmps121
      go_wp2_with (go_at_call 103; refine (must_no _ _).mono ?_; rintro e w' ⟨rfl, rfl⟩)
      rw [← hV]
      first
        | exact ⟨rfl, HV.out.1, .inr ⟨by rw [HK.out]; decide, by rw [HK.out]⟩⟩
        | exact ⟨HV.out.1, .inr ⟨by rw [HK.out]; decide, by rw [HK.out]⟩⟩

set_option maxHeartbeats 2000000 in
theorem wholeWrap_any (v0 : Value) (s0 : Bool) (xs0 : List Nat) (n : Int) (sg : Bool) (w : World) (h0 : AtI w v0 s0 xs0) (m0 : Nl.Small xs0) :
    Calls Tryz.prog 49 #[v0, .int .i64 n, .bool sg] w fun e w' => ResK w w' e (validI s0 xs0) (wrapK n) (Nl.wrapI (sgn s0 (Nl.val xs0)) n.toNat sg) := by
  have hmf : ∀ (fn : Fn) (first cap : Array Value) (w : World), (Instr.makeFunc fn first cap).run Tryz.prog w = .ok (.func fn first cap) w := fun _ _ _ _ => rfl
  obtain ⟨p0, c0, rfl, u0⟩ := h0.form
  obtain ⟨W, hW⟩ : ∃ W, W = (((((w.alloc (.cells #[.bool s0, .slice p0 xs0.length c0] 25)).alloc (.cells #[.int .i64 n] 3)).alloc (.cells #[.bool sg] 4)).alloc (.cells #[.bool false, .slice none 0 0] 25)).alloc (.cells #[.bool s0, .slice p0 xs0.length c0] 25)) := ⟨_, rfl⟩
  have hb : Below w.heap.size w W := by rw [hW]; exact ((((((Below.refl _ _).alloc (by simp <;> omega) _).alloc (by simp <;> omega) _).alloc (by simp <;> omega) _).alloc (by simp <;> omega) _).alloc (by simp <;> omega) _)
  have hs : W.heap.size = w.heap.size + 5 := by rw [hW]; simp
  have B0 : W.heap[w.heap.size + 0]? = some (.cells #[.bool s0, .slice p0 xs0.length c0] 25 (0, 0)) := by rw [hW]; exact al_keep _ _ (by simp <;> omega) (al_keep _ _ (by simp <;> omega) (al_keep _ _ (by simp <;> omega) (al_keep _ _ (by simp <;> omega) (al_at _ _ (by simp)))))
  have B1 : W.heap[w.heap.size + 1]? = some (.cells #[.int .i64 n] 3 (0, 0)) := by rw [hW]; exact al_keep _ _ (by simp <;> omega) (al_keep _ _ (by simp <;> omega) (al_keep _ _ (by simp <;> omega) (al_at _ _ (by simp))))
  have B2 : W.heap[w.heap.size + 2]? = some (.cells #[.bool sg] 4 (0, 0)) := by rw [hW]; exact al_keep _ _ (by simp <;> omega) (al_keep _ _ (by simp <;> omega) (al_at _ _ (by simp)))
  have B3 : W.heap[w.heap.size + 3]? = some (.cells #[.bool false, .slice none 0 0] 25 (0, 0)) := by rw [hW]; exact al_keep _ _ (by simp <;> omega) (al_at _ _ (by simp))
  have B4 : W.heap[w.heap.size + 4]? = some (.cells #[.bool s0, .slice p0 xs0.length c0] 25 (0, 0)) := by rw [hW]; exact al_at _ _ (by simp)
  have HO := Lib.hid (ione_any 121 #[.pointer (some ⟨w.heap.size + 1, 0, none⟩), .pointer (some ⟨w.heap.size, 0, none⟩), .pointer (some ⟨w.heap.size + 2, 0, none⟩)] W (wrapK n) (Nl.wrapI (sgn s0 (Nl.val xs0)) n.toNat sg) (w.heap.size + 4) [(s0, .slice p0 xs0.length c0, xs0)] (givenI_one (w.heap.size + 4) B4 (u0.below hb)) (by omega) (by simp) (fun hall => by
    have o0 := isI_of_ok (u0.below hb) m0 (hall (s0, .slice p0 xs0.length c0, xs0) (by simp))
    exact Wrap_1_does _ _ _ _ _ n sg w.heap.size W B0 o0.1 B1 B2) (fun _ _ => by kernel_rfl))
  have HB := Lib.hid (And.intro hb (And.intro hs B3))
  clear h0 u0 m0 hb hs B0 B1 B2 B3 B4
  go_enter Tryz.func49, Tryz.ntmps49
  go_wp2_with fail
  rw [← hW]
  clear hW
  refine HO.out.mono ?_
  rintro e w1 ⟨c, hc, ⟨v, rfl, h2, h3⟩, hb1⟩
  have hform : ∃ t p l cp, v = .agg #[.bool t, .slice p l cp] := by
    by_cases h0 : c = 0
    · obtain ⟨pp, cc, rfl, -⟩ := (h2 h0).form
      exact ⟨_, _, _, _, rfl⟩
    · rw [h3 h0]; exact ⟨_, _, _, _, rfl⟩
  obtain ⟨t, p, l, cp, rfl⟩ := hform
  have BQ := (hb1.block _ (lt_of_block HB.out.2.2)).trans HB.out.2.2
  have f0 := frozen_of_row _ _ 0 _ _ BQ
  have f1 := frozen_of_row _ _ 1 _ _ BQ
  have g0 := cell_of_row _ _ 0 _ _ (0, 0) BQ
  have g1 := cell_of_row _ _ 1 _ _ (0, 0) BQ
  have HR := Lib.hid (And.intro hc (And.intro h2 (And.intro h3 (And.intro hb1 BQ))))
  clear hc h2 h3 hb1 BQ HO
  go_wp2_with fail
  refine bodyPost_ret (v := .tuple #[.agg #[.bool t, .slice p l cp], .int .i64 c]) (results_int1 Tryz.results49 _ _ (w.heap.size + 3) _ _ rfl rfl (load_int (ibox_set (g := w.heap.size + 3) _ _ HR.out.2.2.2.2))) rfl ?_
  refine ⟨c, ?_, ⟨_, rfl, fun h0 => ?_, HR.out.2.2.1⟩, below_ibox (HB.out.1.trans (HR.out.2.2.2.1.mono HB.out.1.size)) (g := w.heap.size + 3) (by omega) _ _⟩
  · rcases HR.out.1 with ⟨hall, h1⟩ | ⟨⟨q, hq, h5⟩, h1⟩
    · rw [h1, if_pos (by exact hall (s0, .slice p0 xs0.length c0, xs0) (by simp))]
    · rw [h1, if_neg]
      intro hok
      simp only [List.mem_singleton] at hq; subst hq; exact Bool.noConfusion (h5.symm.trans hok)
  · obtain ⟨u, hu1, hu2⟩ := HR.out.2.1 h0
    simp only [Value.agg.injEq, Array.mk.injEq, List.cons.injEq, Value.bool.injEq, and_true] at hu1
    obtain ⟨rfl, rfl⟩ := hu1
    exact AtI.mk (at_ibox (g := w.heap.size + 3) _ _ hu2 HR.out.2.2.2.2)
end Go.Proofs.YtipjbnbmackidaaGreat

namespace Go.Proofs.YtipjbnbmackidaaGreat
open Go.RowKit

set_option maxHeartbeats 2000000 in
theorem Shift_1_does (s0 : Bool) (p0 : Option Addr) (l0 c0 : Nat) (a : Int) (n : Nat) (K : Nat) (w : World) (h0 : BoxI w K s0 p0 l0 c0) (g0 : IsI w (.agg #[.bool s0, .slice p0 l0 c0]) a) (la : fitI a) (hn : w.heap[K + 1]? = some (.cells #[.int .i64 (n : Int)] 3 (0, 0))) (e1 : n ≤ 32768) (e2 : n + nbits a.natAbs ≤ 32768) :
    IntDoes 127 #[.pointer (some ⟨K, 0, none⟩), .pointer (some ⟨K + 1, 0, none⟩)] w (0) (a * ((2 ^ n : Nat) : Int)) := by
  intro W hW
  obtain ⟨V, hV⟩ : ∃ V, V = W.alloc (.cells #[.bool false, .slice none 0 0] 87) := ⟨_, rfl⟩
  have hbV : Below W.heap.size W V := by rw [hV]; exact below_one W _
  have hQ : V.heap[W.heap.size]? = some (.cells #[.bool false, .slice none 0 0] 87 (0, 0)) := by rw [hV]; exact heap_alloc_new _ _
  have bh0 := (hbV.block _ (Nat.lt_of_lt_of_le (lt_of_block h0) hW.size)).trans ((hW.block _ (lt_of_block h0)).trans h0)
  have kh00 := cell_of_row _ _ 0 _ _ (0, 0) bh0
  have kh01 := cell_of_row _ _ 1 _ _ (0, 0) bh0
  have bhn := (hbV.block _ (Nat.lt_of_lt_of_le (lt_of_block hn) hW.size)).trans ((hW.block _ (lt_of_block hn)).trans hn)
  have khn0 := cell_of_row _ _ 0 _ _ (0, 0) bhn
  simp only [List.getElem?_toArray, List.getElem?_cons_zero, List.getElem?_cons_succ] at kh00 kh01 khn0
  have HV := Lib.hid (And.intro hbV hQ)
  have hi0 := (g0.below hW).below hbV
  rw [hV] at kh00 kh01 khn0
  have HC := Lib.hid (shifted_fit _ a n V hi0 la e1 e2)
  have HK := Lib.hid (rfl : (0 : Int) = 0)
  clear h0 hn g0 bh0 bhn hW hbV hQ hi0 la e2
  go_enter Tryz.func127, Tryz.ntmps127
  go_wp2_with fail
  rw [← hV]
  clear hV
  refine HC.out.mono ?_
  rintro e w1 ⟨⟨t, a', l', c', rfl, hi⟩, hb1⟩
  clear kh00 kh01 khn0
  have BQ := (hb1.block _ (lt_of_block HV.out.2)).trans HV.out.2
  have f0 := frozen_of_row _ _ 0 _ _ BQ
  have f1 := frozen_of_row _ _ 1 _ _ BQ
  have g0 := cell_of_row _ _ 0 _ _ (0, 0) BQ
  have g1 := cell_of_row _ _ 1 _ _ (0, 0) BQ
  have HH := Lib.hid (And.intro hi (And.intro hb1 BQ))
  clear hi hb1 BQ HC
  go_wp2_with fail
  refine bodyPost_ret (v := .agg #[.bool t, .slice a' l' c']) (results_cell_row Tryz.results127 _ _ W.heap.size 87 _ (0, 0) _ rfl (ibox_set _ _ HH.out.2.2) Tryz.underlying87 rfl (by kernel_rfl)) rfl ?_
  refine ⟨below_ibox (HV.out.1.trans (HH.out.2.1.mono HV.out.1.size)) (Nat.le_refl _) _ _, .inl ⟨HK.out, _, rfl, ?_⟩⟩
  obtain ⟨v5, e5, hv5⟩ := HH.out.1
  exact ⟨v5, e5, at_ibox _ _ hv5 HH.out.2.2⟩

set_option maxHeartbeats 2000000 in
theorem wholeShift_fit (v0 : Value) (s0 : Bool) (xs0 : List Nat) (n : Nat) (w : World) (h0 : AtI w v0 s0 xs0) (m0 : Nl.Small xs0) (e1 : n ≤ 32768) (e2 : n + nbits (sgn s0 (Nl.val xs0)).natAbs ≤ 32768) :
    Calls Tryz.prog 52 #[v0, .int .i64 (n : Int)] w fun e w' => ResK w w' e (validI s0 xs0) (0) (sgn s0 (Nl.val xs0) * ((2 ^ n : Nat) : Int)) := by
  have hmf : ∀ (fn : Fn) (first cap : Array Value) (w : World), (Instr.makeFunc fn first cap).run Tryz.prog w = .ok (.func fn first cap) w := fun _ _ _ _ => rfl
  obtain ⟨p0, c0, rfl, u0⟩ := h0.form
  obtain ⟨W, hW⟩ : ∃ W, W = ((((w.alloc (.cells #[.bool s0, .slice p0 xs0.length c0] 25)).alloc (.cells #[.int .i64 (n : Int)] 3)).alloc (.cells #[.bool false, .slice none 0 0] 25)).alloc (.cells #[.bool s0, .slice p0 xs0.length c0] 25)) := ⟨_, rfl⟩
  have hb : Below w.heap.size w W := by rw [hW]; exact (((((Below.refl _ _).alloc (by simp <;> omega) _).alloc (by simp <;> omega) _).alloc (by simp <;> omega) _).alloc (by simp <;> omega) _)
  have hs : W.heap.size = w.heap.size + 4 := by rw [hW]; simp
  have B0 : W.heap[w.heap.size + 0]? = some (.cells #[.bool s0, .slice p0 xs0.length c0] 25 (0, 0)) := by rw [hW]; exact al_keep _ _ (by simp <;> omega) (al_keep _ _ (by simp <;> omega) (al_keep _ _ (by simp <;> omega) (al_at _ _ (by simp))))
  have B1 : W.heap[w.heap.size + 1]? = some (.cells #[.int .i64 (n : Int)] 3 (0, 0)) := by rw [hW]; exact al_keep _ _ (by simp <;> omega) (al_keep _ _ (by simp <;> omega) (al_at _ _ (by simp)))
  have B2 : W.heap[w.heap.size + 2]? = some (.cells #[.bool false, .slice none 0 0] 25 (0, 0)) := by rw [hW]; exact al_keep _ _ (by simp <;> omega) (al_at _ _ (by simp))
  have B3 : W.heap[w.heap.size + 3]? = some (.cells #[.bool s0, .slice p0 xs0.length c0] 25 (0, 0)) := by rw [hW]; exact al_at _ _ (by simp)
  have HO := Lib.hid (ione_any 127 #[.pointer (some ⟨w.heap.size, 0, none⟩), .pointer (some ⟨w.heap.size + 1, 0, none⟩)] W (0) (sgn s0 (Nl.val xs0) * ((2 ^ n : Nat) : Int)) (w.heap.size + 3) [(s0, .slice p0 xs0.length c0, xs0)] (givenI_one (w.heap.size + 3) B3 (u0.below hb)) (by omega) (by simp) (fun hall => by
    have o0 := isI_of_ok (u0.below hb) m0 (hall (s0, .slice p0 xs0.length c0, xs0) (by simp))
    exact Shift_1_does _ _ _ _ _ n w.heap.size W B0 o0.1 o0.2 B1 e1 e2) (fun _ _ => by kernel_rfl))
  have HB := Lib.hid (And.intro hb (And.intro hs B2))
  clear h0 u0 m0 hb hs B0 B1 B2 B3
  go_enter Tryz.func52, Tryz.ntmps52
  go_wp2_with fail
  rw [← hW]
  clear hW
  refine HO.out.mono ?_
  rintro e w1 ⟨c, hc, ⟨v, rfl, h2, h3⟩, hb1⟩
  have hform : ∃ t p l cp, v = .agg #[.bool t, .slice p l cp] := by
    by_cases h0 : c = 0
    · obtain ⟨pp, cc, rfl, -⟩ := (h2 h0).form
      exact ⟨_, _, _, _, rfl⟩
    · rw [h3 h0]; exact ⟨_, _, _, _, rfl⟩
  obtain ⟨t, p, l, cp, rfl⟩ := hform
  have BQ := (hb1.block _ (lt_of_block HB.out.2.2)).trans HB.out.2.2
  have f0 := frozen_of_row _ _ 0 _ _ BQ
  have f1 := frozen_of_row _ _ 1 _ _ BQ
  have g0 := cell_of_row _ _ 0 _ _ (0, 0) BQ
  have g1 := cell_of_row _ _ 1 _ _ (0, 0) BQ
  have HR := Lib.hid (And.intro hc (And.intro h2 (And.intro h3 (And.intro hb1 BQ))))
  clear hc h2 h3 hb1 BQ HO
  go_wp2_with fail
  refine bodyPost_ret (v := .tuple #[.agg #[.bool t, .slice p l cp], .int .i64 c]) (results_int1 Tryz.results52 _ _ (w.heap.size + 2) _ _ rfl rfl (load_int (ibox_set (g := w.heap.size + 2) _ _ HR.out.2.2.2.2))) rfl ?_
  refine ⟨c, ?_, ⟨_, rfl, fun h0 => ?_, HR.out.2.2.1⟩, below_ibox (HB.out.1.trans (HR.out.2.2.2.1.mono HB.out.1.size)) (g := w.heap.size + 2) (by omega) _ _⟩
  · rcases HR.out.1 with ⟨hall, h1⟩ | ⟨⟨q, hq, h5⟩, h1⟩
    · rw [h1, if_pos (by exact hall (s0, .slice p0 xs0.length c0, xs0) (by simp))]
    · rw [h1, if_neg]
      intro hok
      simp only [List.mem_singleton] at hq; subst hq; exact Bool.noConfusion (h5.symm.trans hok)
  · obtain ⟨u, hu1, hu2⟩ := HR.out.2.1 h0
    simp only [Value.agg.injEq, Array.mk.injEq, List.cons.injEq, Value.bool.injEq, and_true] at hu1
    obtain ⟨rfl, rfl⟩ := hu1
    exact AtI.mk (at_ibox (g := w.heap.size + 2) _ _ hu2 HR.out.2.2.2.2)
end Go.Proofs.YtipjbnbmackidaaGreat
