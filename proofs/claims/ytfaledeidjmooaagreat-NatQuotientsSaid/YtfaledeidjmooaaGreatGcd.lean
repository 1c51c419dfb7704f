/-
  What Gcd, Root and FromUint do, given the inner functions. Conditions: those that each theorem names.
-/
import Derived.Test.YtfaledeidjmooaaGreatDiv
import Derived.Test.YtfaledeidjmooaaGreatRaise
namespace Go.Proofs.YtfaledeidjmooaaGreat
open Go.RowKit

set_option maxHeartbeats 1000000 in
theorem gcd1_does (va vb : Value) (g K : Nat) (w : World) (hK1 : w.cell? ⟨K, 0, none⟩ = some va) (hK2 : w.cell? ⟨K + 1, 0, none⟩ = some vb) (hl : K + 1 < w.heap.size)
    (hd : ∀ w', Below w.heap.size w w' → Calls Tryz.prog 74 #[va, vb] w' fun e w'' => (∃ v, e = .returned v ∧ IsN w'' v g) ∧ Below w'.heap.size w' w'') :
    NatDoes 73 #[.pointer (some ⟨K, 0, none⟩), .pointer (some ⟨K + 1, 0, none⟩)] w 0 g := by
  intro W hW
  have k1 := (hW.cell (p := ⟨K, 0, none⟩) (show K < w.heap.size by omega)).trans hK1
  have k2 := (hW.cell (p := ⟨K + 1, 0, none⟩) hl).trans hK2
  have hp := Lib.hid (hd W hW)
  clear hK1 hK2 hd hW
  go_enter Tryz.func73, Tryz.ntmps73
  go_wp2_with fail
  refine hp.out.mono ?_
  rintro e w1 ⟨⟨v, rfl, hv⟩, hb1⟩
  have HV := Lib.hid hv
  have HB := Lib.hid hb1
  clear hv hb1
  go_wp2_with fail
  go_ret
  exact ⟨HB.out, .inl ⟨trivial, v, rfl, HV.out⟩⟩

set_option maxHeartbeats 1000000 in
/-- the greatest common divisor, given what the inner function finds -/
theorem gcd_any (va vb : Value) (xs ys : List Nat) (g : Nat) (w : World) (ha : At w va xs) (hb : At w vb ys)
    (hd : validB xs = true → validB ys = true → ∀ w', Below w.heap.size w w' → Calls Tryz.prog 74 #[va, vb] w' fun e w'' => (∃ v, e = .returned v ∧ IsN w'' v g) ∧ Below w'.heap.size w' w'') :
    Calls Tryz.prog 32 #[va, vb] w fun e w' => Res2 w w' e xs ys 0 g := by
  have hmf : ∀ (fn : Fn) (first cap : Array Value) (w : World), (Instr.makeFunc fn first cap).run Tryz.prog w = .ok (.func fn first cap) w := fun _ _ _ _ => rfl
  have HA := Lib.hid ha
  have HB := Lib.hid hb
  have HD := Lib.hid hd
  obtain ⟨a, ca, rfl, -⟩ := ha.form
  obtain ⟨b, cb, rfl, -⟩ := hb.form
  clear ha hb hd
  go_enter Tryz.func32, Tryz.ntmps32
  go_wp2_with fail
  obtain ⟨W, hW⟩ : ∃ W, W = ((w.alloc (.cells #[.slice a xs.length ca] 23)).alloc (.cells #[.slice b ys.length cb] 23)).alloc (.cells #[.slice a xs.length ca, .slice b ys.length cb] 23) := ⟨_, rfl⟩
  rw [← hW]
  obtain ⟨hbl, hsz, c1, c2, c3, c4⟩ := boxes2 w _ _ _ _ _ W hW
  clear hW
  refine (one_two _ _ w W 0 g (w.heap.size + 1 + 1) _ _ xs ys hbl (by omega) c3 c4 HA.out HB.out (fun h1 h2 => ?_) (fun _ _ => by kernel_rfl)).mono ?_
  · exact gcd1_does _ _ g w.heap.size W c1 c2 (by omega) (fun w' hw' => HD.out h1 h2 w' (hbl.trans (hw'.mono hbl.size)))
  clear c1 c2 c3 c4 hbl hsz
  rintro e w1 ⟨c, hc, ⟨v, rfl, h2, h3⟩, hb1⟩
  have HR := Lib.hid (And.intro hc (And.intro h2 (And.intro h3 hb1)))
  clear hc h2 h3 hb1
  go_wp2_with fail
  go_ret2
  exact ⟨c, HR.out.1, ⟨v, rfl, HR.out.2.1, HR.out.2.2.1⟩, HR.out.2.2.2⟩

/-- the error of a root -/
def rootK (n : Int) : Int := if 1 ≤ n then 0 else 1
/-- what the inner function of roots makes -/
def RootOk (w w' : World) (e : Ending) (q r : Nat) : Prop := (∃ u v, e = .returned (.tuple #[u, v]) ∧ IsN w' u q ∧ IsN w' v r) ∧ Below w.heap.size w w'

set_option maxHeartbeats 1000000 in
theorem root1_does (va : Value) (q r : Nat) (n : Int) (K : Nat) (w : World) (hK1 : w.cell? ⟨K, 0, none⟩ = some va) (hK2 : w.cell? ⟨K + 1, 0, none⟩ = some (.int .i64 n)) (hl : K + 1 < w.heap.size) (hq : (Nl.limbs q).length ≤ 1024) (hr : (Nl.limbs r).length ≤ 1024)
    (hd : 1 ≤ n → ∀ w', Below w.heap.size w w' → Calls Tryz.prog 78 #[va, .int .i64 n] w' fun e w'' => RootOk w' w'' e q r) :
    TwoDoes 77 #[.pointer (some ⟨K + 1, 0, none⟩), .pointer (some ⟨K, 0, none⟩)] w (rootK n) q r := by
  obtain ⟨k, hk⟩ : ∃ k : Int, k = rootK n := ⟨_, rfl⟩
  rw [← hk]
  have HK := Lib.hid hk
  clear hk
  intro W hW
  have k1 := (hW.cell (p := ⟨K, 0, none⟩) (show K < w.heap.size by omega)).trans hK1
  have k2 := (hW.cell (p := ⟨K + 1, 0, none⟩) hl).trans hK2
  have HD := Lib.hid (fun h0 => hd h0 W hW)
  have HQ := Lib.hid (And.intro hq hr)
  clear hK1 hK2 hW hd hl hq hr
  by_cases h0 : 1 ≤ n
  · have e0 : decide (1 ≤ n) = true := decide_eq_true h0
    have hk := HK.out
    rw [rootK, if_pos h0] at hk
    have HK' := Lib.hid hk
    have HC := Lib.hid (HD.out h0)
    clear hk HK h0
    go_enter Tryz.func77, Tryz.ntmps77
    go_wp2_with (go_at_call 61; refine (must_yes _ _).mono ?_; rintro e w' ⟨rfl, rfl⟩)
    refine HC.out.mono ?_
    rintro e w2 ⟨⟨u, v, rfl, hu, hv⟩, hb2⟩
    have HU := Lib.hid hu
    have HV := Lib.hid hv
    have HB2 := Lib.hid hb2
    clear hu hv hb2 e0 k1 k2
    go_wp2_with fail
    go_ret2
    exact ⟨HB2.out, .inl ⟨HK'.out, u, v, rfl, HU.out, HV.out, HQ.out.1, HQ.out.2⟩⟩
  · have e0 : decide (1 ≤ n) = false := decide_eq_false h0
    have hk := HK.out
    rw [rootK, if_neg h0] at hk
    have HK' := Lib.hid hk
    clear hk HK h0
    go_enter Tryz.func77, Tryz.ntmps77
    go_wp2_with (go_at_call 61; refine (must_no _ _).mono ?_; rintro e w' ⟨rfl, rfl⟩)
    exact ⟨rfl, Below.refl _ _, .inr ⟨by rw [HK'.out]; decide, by rw [HK'.out]⟩⟩

set_option maxHeartbeats 1000000 in
/-- a root and its rest, given what the inner function finds -/
theorem root_any (va : Value) (xs : List Nat) (q r : Nat) (n : Int) (w : World) (ha : At w va xs) (hq : validB xs = true → (Nl.limbs q).length ≤ 1024) (hr : validB xs = true → (Nl.limbs r).length ≤ 1024)
    (hd : validB xs = true → 1 ≤ n → ∀ w', Below w.heap.size w w' → Calls Tryz.prog 78 #[va, .int .i64 n] w' fun e w'' => RootOk w' w'' e q r) :
    Calls Tryz.prog 36 #[va, .int .i64 n] w fun e w' => Pair1 w w' e xs (rootK n) q r := by
  have hmf : ∀ (fn : Fn) (first cap : Array Value) (w : World), (Instr.makeFunc fn first cap).run Tryz.prog w = .ok (.func fn first cap) w := fun _ _ _ _ => rfl
  have HA := Lib.hid ha
  have HD := Lib.hid hd
  have HQ := Lib.hid (And.intro hq hr)
  obtain ⟨a, ca, rfl, -⟩ := ha.form
  clear ha hd hq hr
  go_enter Tryz.func36, Tryz.ntmps36
  go_wp2_with fail
  obtain ⟨W, hW⟩ : ∃ W, W = ((w.alloc (.cells #[.slice a xs.length ca] 23)).alloc (.cells #[.int .i64 n] 3)).alloc (.cells #[.slice a xs.length ca] 23) := ⟨_, rfl⟩
  rw [← hW]
  obtain ⟨hbl, hsz, c1, c2, c3⟩ := boxes3 w _ _ _ _ _ W hW
  clear hW
  refine (two_one _ _ w W (rootK n) q r (w.heap.size + 1 + 1) _ xs hbl (by omega) c3 HA.out (fun h1 => ?_) (fun _ _ => by kernel_rfl)).mono ?_
  · exact root1_does _ q r n w.heap.size W c1 c2 (by omega) (HQ.out.1 h1) (HQ.out.2 h1) (fun h0 w' hw' => HD.out h1 h0 w' (hbl.trans (hw'.mono hbl.size)))
  clear c1 c2 c3 hbl hsz
  rintro e w1 ⟨c, hc, ⟨u, v, rfl, h2, h3⟩, hb1⟩
  have HR := Lib.hid (And.intro hc (And.intro h2 (And.intro h3 hb1)))
  clear hc h2 h3 hb1
  go_wp2_with fail
  refine bodyPost_ret (v := .tuple #[u, v, .int .i64 c]) (by simp [results, Tryz.results36, go_sem]) rfl ?_
  exact ⟨c, HR.out.1, ⟨u, v, rfl, HR.out.2.1, HR.out.2.2.1⟩, HR.out.2.2.2⟩

theorem natFromUint_any (x : Nat) (w : World) (hx : x < 18446744073709551616) : Calls Tryz.prog 54 #[.int .u64 x] w fun e w' => (∃ v, e = .returned v ∧ Own w.heap.size w' v (Nl.limbs x)) ∧ Below w.heap.size w w' := by
  have hl : (Nl.limbs x).length ≤ 1024 := by
    have : (Nl.limbs x).length ≤ 2 := Nl.limbs_lt (by omega)
    omega
  go_enter Tryz.func54, Tryz.ntmps54
  go_wp2_with fail
  refine (fromUint_num x w hx).mono ?_
  rintro e w1 ⟨⟨v, rfl, hv⟩, hb1⟩
  have HV := Lib.hid hv
  have HB := Lib.hid hb1
  clear hv hb1
  go_wp2_with fail
  refine (kept_yes v x w1 HV.out.at.at hl).mono ?_
  rintro e w2 ⟨⟨u, rfl, hu⟩, hb2⟩
  have HU := Lib.hid hu
  have HB2 := Lib.hid hb2
  clear hu hb2
  go_wp2_with fail
  go_ret
  exact ⟨⟨u, rfl, HU.out.mono HB.out.size⟩, HB.out.trans (HB2.out.mono HB.out.size)⟩
end Go.Proofs.YtfaledeidjmooaaGreat
