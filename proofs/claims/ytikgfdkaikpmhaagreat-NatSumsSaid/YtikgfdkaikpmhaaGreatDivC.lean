/-
  What the work of quotients does, by reciprocals. Conditions: those that each theorem names.
-/
import Derived.Test.YtikgfdkaikpmhaaGreatDivB
namespace Go.Proofs.YtikgfdkaikpmhaaGreat
open Go.RowKit

set_option maxHeartbeats 1000000 in
theorem quotient2_does (K : Nat) (va vb : Value) (m n : Nat) (cut : Int) (w : World) (h : MulIn w K 2 cut va vb m n)
    (hd : n ≠ 0 → ∀ w', Below w.heap.size w w' → Calls Tryz.prog 132 #[va, vb, .int .i64 cut] w' fun e w'' => DivOk w' w'' e m n) :
    TwoDoes 104 #[.pointer (some ⟨K, 0, none⟩), .pointer (some ⟨K + 1 + 1 + 1, 0, none⟩), .pointer (some ⟨K + 1 + 1, 0, none⟩), .pointer (some ⟨K + 1, 0, none⟩)] w (divK 2 cut n) (m / n) (m % n) := by
  obtain ⟨k, hk⟩ : ∃ k : Int, k = divK 2 cut n := ⟨_, rfl⟩
  rw [← hk]
  have HK := Lib.hid hk
  clear hk
  intro W hW
  have HD := Lib.hid fun h0  => fun w' (hw' : Below W.heap.size W w') => hd h0  w' (hW.trans (hw'.mono hW.size))
  have H := Lib.hid (h.below hW)
  have k0 := H.out.c0
  have hKl : K < W.heap.size := by have := H.out.lt; omega
  have hKn : ¬ K = W.heap.size := by omega
  have hKn1 : ¬ K = W.heap.size + 1 := by omega
  clear hW h hd
  go_enter Tryz.func104, Tryz.ntmps104
  go_upto_region 1 with fail
  go_cut [6] from 7 (fun v5 wx => RoadAt W wx v5 false 132)
  case first =>
    have hix : ∀ w, (Instr.index 109 (.agg #[.bool false, .func (.func 129) #[] #[], .bool true, .func (.func 131) #[] #[], .bool false, .func (.func 132) #[] #[]]) (.int .i64 2)).run Tryz.prog w = .ok (.agg #[.bool false, .func (.func 132) #[] #[]]) w := fun _ => by kernel_rfl
    go_region_with (go_at_call 105; refine (dividers_any _).mono ?_; rintro e w1 ⟨rfl, rfl⟩)
    all_goals (go_wp2_with fail; go_meet; case rel => first | exact roadAt_mk .. | exact roadAt_mk' ..)
  case rest =>
    obtain ⟨g, rfl, g0, g1, gb⟩ := hcut
    have H2 := Lib.hid (H.out.below gb)
    have GB := Lib.hid gb
    have c1 := H2.out.c1
    have c2 := H2.out.c2
    have c3 := H2.out.c3
    have sla := Nl.limbs_mono (Nat.div_le_self m n)
    have slb : n ≠ 0 → (Nl.limbs (m % n)).length ≤ (Nl.limbs n).length := fun h => Nl.limbs_mono (Nat.le_of_lt (Nat.mod_lt _ (Nat.pos_of_ne_zero h)))
    obtain ⟨b, cb, rfl, -⟩ := H2.out.hb.form
    obtain ⟨a, ca, rfl, -⟩ := H2.out.ha.form
    have lb := H2.out.lb
    have la := H2.out.la
    have l1 := H2.out.h1
    have l2 := H2.out.h2
    have SL := Lib.hid (And.intro sla slb)
    clear gb k0 H hKl hKn hKn1 sla slb
    by_cases hn : (Nl.limbs n).length = 0
    · have e0 : decide (0 < (Nl.limbs n).length) = false := by rw [decide_eq_false_iff_not]; omega
      have hk := HK.out
      rw [divK, if_neg (fun h => absurd h.1 (by decide)), if_pos (Nl.len_zero hn)] at hk
      have HK' := Lib.hid hk
      clear hk hn HK
      go_wp2_with (first | (go_at_call_of 61 (Value.bool true); refine (must_yes _ _).mono ?_; rintro e w' ⟨rfl, rfl⟩) | (go_at_call_of 61 (Value.bool false); refine (must_no _ _).mono ?_; rintro e w' ⟨rfl, rfl⟩))
      exact ⟨rfl, GB.out, .inr ⟨by rw [HK'.out]; decide, by rw [HK'.out]⟩⟩
    · have e0 : decide (0 < (Nl.limbs n).length) = true := by rw [decide_eq_true_eq]; omega
      have hn0 : n ≠ 0 := fun h => hn (by rw [h, Nl.limbs_zero]; rfl)
      have hk := HK.out
      rw [divK, if_neg (fun h => absurd h.1 (by decide)), if_neg hn0] at hk
      have HK' := Lib.hid hk
      have HN := Lib.hid hn0
      clear hk hn hn0 HK
      go_wp2_with (first | (go_at_call_of 61 (Value.bool true); refine (must_yes _ _).mono ?_; rintro e w' ⟨rfl, rfl⟩))
      refine (HD.out HN.out  _ GB.out).mono ?_
      rintro e w2 ⟨⟨u, v, rfl, hu, hv⟩, hb2⟩
      have HU := Lib.hid hu
      have HV := Lib.hid hv
      have HB2 := Lib.hid hb2
      clear hu hv hb2
      go_wp2_with fail
      go_ret2
      exact ⟨GB.out.trans (HB2.out.mono GB.out.size), .inl ⟨HK'.out, u, v, rfl, HU.out, HV.out, Nat.le_trans SL.out.1 la, Nat.le_trans (SL.out.2 HN.out) lb⟩⟩
end Go.Proofs.YtikgfdkaikpmhaaGreat
