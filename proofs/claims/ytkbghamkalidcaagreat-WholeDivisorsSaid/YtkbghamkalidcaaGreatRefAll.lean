/-
  What the work of quotients does, by elements. What the work of quotients does, by blocks. What the work of quotients does, by reciprocals. What Div, Long, Newton and Blocks do, given the roads. Conditions: those that each theorem names.
  What Shr and Pow do. Conditions: those that each theorem names.
  What Gcd, Root and FromUint do, given the inner functions. Conditions: those that each theorem names.
  What commonDivisor does for numbers of two words. What rootByBits does. What root does where it goes bit by bit, and rootAndRest. Conditions: those that each theorem names.
  What light, refused and the reference's Fits, at, Valid and Same do. Conditions: those that each theorem names.
-/
import Derived.Test.YtkbghamkalidcaaGreatMul
import Derived.Test.YtkbghamkalidcaaGreatValidAll
import Derived.Test.YtkbghamkalidcaaGreatFormsAll
import Derived.Test.YtkbghamkalidcaaGreatDivideAll
import Derived.BigQuiet
import Derived.Deep.RegionWith
import Derived.Deep.Cut
import Derived.BigRegion
namespace Go.Proofs.YtkbghamkalidcaaGreat
open Go.RowKit

/-- the error of a quotient -/
def divK (road cut : Int) (n : Nat) : Int := if road = 1 ∧ cutB cut = false then 1 else if n = 0 then 8 else 0

set_option maxHeartbeats 1000000 in
theorem div1_does (va vb : Value) (m n : Nat) (K : Nat) (w : World) (hK1 : w.cell? ⟨K, 0, none⟩ = some va) (hK2 : w.cell? ⟨K + 1, 0, none⟩ = some vb) (hl : K + 1 < w.heap.size) (ha : IsN w va m) (hb : IsN w vb n)
    (hla : (Nl.limbs m).length ≤ 1024) (hlb : (Nl.limbs n).length ≤ 1024)
    (hd : n ≠ 0 → ∀ w', Below w.heap.size w w' → Calls Tryz.prog 186 #[va, vb] w' fun e w'' => DivOk w' w'' e m n) : TwoDoes 185 #[.pointer (some ⟨K + 1, 0, none⟩), .pointer (some ⟨K, 0, none⟩)] w (divK 1 100 n) (m / n) (m % n) := by
  obtain ⟨k, hk⟩ : ∃ k : Int, k = divK 1 100 n := ⟨_, rfl⟩
  rw [← hk]
  have HK := Lib.hid hk
  clear hk
  intro W hW
  have k1 := (hW.cell (p := ⟨K, 0, none⟩) (show K < w.heap.size by omega)).trans hK1
  have k2 := (hW.cell (p := ⟨K + 1, 0, none⟩) hl).trans hK2
  have HD := Lib.hid fun h0 => fun w' (hw' : Below W.heap.size W w') => hd h0 w' (hW.trans (hw'.mono hW.size))
  have sla := Nl.limbs_mono (Nat.div_le_self m n)
  have slb : n ≠ 0 → (Nl.limbs (m % n)).length ≤ (Nl.limbs n).length := fun h => Nl.limbs_mono (Nat.le_of_lt (Nat.mod_lt _ (Nat.pos_of_ne_zero h)))
  obtain ⟨a, ca, rfl, -⟩ := ha.form
  obtain ⟨b, cb, rfl, -⟩ := hb.form
  have SL := Lib.hid (And.intro sla slb)
  clear hK1 hK2 ha hb hW hl hd sla slb
  by_cases hn : (Nl.limbs n).length = 0
  · have e0 : decide (0 < (Nl.limbs n).length) = false := by rw [decide_eq_false_iff_not]; omega
    have hk := HK.out
    rw [divK, if_neg (fun h => absurd h.2 (by decide)), if_pos (Nl.len_zero hn)] at hk
    have HK' := Lib.hid hk
    clear hk hn HK HD SL
    go_enter Tryz.func185, Tryz.ntmps185
    go_wp2_with (first | (go_at_call_of 55 (Value.bool true); refine (must_yes _ _).mono ?_; rintro e w' ⟨rfl, rfl⟩) | (go_at_call_of 55 (Value.bool false); refine (must_no _ _).mono ?_; rintro e w' ⟨rfl, rfl⟩))
    exact ⟨rfl, Below.refl _ _, .inr ⟨by rw [HK'.out]; decide, by rw [HK'.out]⟩⟩
  · have e0 : decide (0 < (Nl.limbs n).length) = true := by rw [decide_eq_true_eq]; omega
    have hn0 : n ≠ 0 := fun h => hn (by rw [h, Nl.limbs_zero]; rfl)
    have hk := HK.out
    rw [divK, if_neg (fun h => absurd h.2 (by decide)), if_neg hn0] at hk
    have HK' := Lib.hid hk
    have HN := Lib.hid hn0
    clear hk hn hn0 HK
    go_enter Tryz.func185, Tryz.ntmps185
    go_wp2_with (first | (go_at_call_of 55 (Value.bool true); refine (must_yes _ _).mono ?_; rintro e w' ⟨rfl, rfl⟩))
    refine (HD.out HN.out _ (Below.refl _ _)).mono ?_
    rintro e w2 ⟨⟨u, v, rfl, hu, hv⟩, hb2⟩
    have HU := Lib.hid hu
    have HV := Lib.hid hv
    have HB2 := Lib.hid hb2
    clear hu hv hb2
    go_wp2_with fail
    go_ret2
    exact ⟨HB2.out, .inl ⟨HK'.out, u, v, rfl, HU.out, HV.out, Nat.le_trans SL.out.1 hla, Nat.le_trans (SL.out.2 HN.out) hlb⟩⟩

set_option maxHeartbeats 1000000 in
theorem div_any (va vb : Value) (xs ys : List Nat) (w : World) (ha : At w va xs) (hb : At w vb ys) (hsx : Nl.Small xs) (hsy : Nl.Small ys)
    (hd : validB xs = true → validB ys = true → Nl.val ys ≠ 0 → ∀ w', Below w.heap.size w w' → Calls Tryz.prog 186 #[va, vb] w' fun e w'' => DivOk w' w'' e (Nl.val xs) (Nl.val ys)) :
    Calls Tryz.prog 140 #[va, vb] w fun e w' => Pair2 w w' e xs ys (divK 1 100 (Nl.val ys)) (Nl.val xs / Nl.val ys) (Nl.val xs % Nl.val ys) := by
  have hmf : ∀ (fn : Fn) (first cap : Array Value) (w : World), (Instr.makeFunc fn first cap).run Tryz.prog w = .ok (.func fn first cap) w := fun _ _ _ _ => rfl
  have HA := Lib.hid ha
  have HB := Lib.hid hb
  have HD := Lib.hid hd
  obtain ⟨a, ca, rfl, -⟩ := ha.form
  obtain ⟨b, cb, rfl, -⟩ := hb.form
  clear ha hb hd
  go_enter Tryz.func140, Tryz.ntmps140
  go_wp2_with fail
  obtain ⟨W, hW⟩ : ∃ W, W = ((w.alloc (.cells #[.slice a xs.length ca] 23)).alloc (.cells #[.slice b ys.length cb] 23)).alloc (.cells #[.slice a xs.length ca, .slice b ys.length cb] 23) := ⟨_, rfl⟩
  rw [← hW]
  obtain ⟨hbl, hsz, c1, c2, c3, c4⟩ := boxes2 w _ _ _ _ _ W hW
  clear hW
  refine (two_two _ _ w W (divK 1 100 (Nl.val ys)) (Nl.val xs / Nl.val ys) (Nl.val xs % Nl.val ys) (w.heap.size + 1 + 1) _ _ xs ys hbl (by omega) c3 c4 HA.out HB.out (fun v1 v2 => ?_) (fun _ _ => by kernel_rfl)).mono ?_
  · exact div1_does _ _ _ _ w.heap.size W c1 c2 (by omega) ((HA.out.num hsx v1).below hbl) ((HB.out.num hsy v2).below hbl) (validB_eq hsx v1).2 (validB_eq hsy v2).2 (fun h0 w' hw' => HD.out v1 v2 h0 w' (hbl.trans (hw'.mono hbl.size)))
  clear c1 c2 c3 c4 hbl hsz HD
  rintro e w1 ⟨c, hc, ⟨u, v, rfl, h2, h3⟩, hb1⟩
  have HR := Lib.hid (And.intro hc (And.intro h2 (And.intro h3 hb1)))
  clear hc h2 h3 hb1
  go_wp2_with fail
  refine bodyPost_ret (v := .tuple #[u, v, .int .i64 c]) (by simp [results, Tryz.results140, go_sem]) rfl ?_
  exact ⟨c, HR.out.1, ⟨u, v, rfl, HR.out.2.1, HR.out.2.2.1⟩, HR.out.2.2.2⟩

end Go.Proofs.YtkbghamkalidcaaGreat

namespace Go.Proofs.YtkbghamkalidcaaGreat
open Go.RowKit

/-- the error of a shift to the right -/
def shrK (_m : Nat) (n : Int) : Int := if 0 ≤ n then 0 else 1

set_option maxHeartbeats 1000000 in
theorem shr1_does (va : Value) (m : Nat) (n : Int) (K : Nat) (w : World) (hK1 : w.cell? ⟨K, 0, none⟩ = some va) (hK2 : w.cell? ⟨K + 1, 0, none⟩ = some (.int .i64 n)) (hl : K + 1 < w.heap.size) (ha : IsN w va m)
    (hla : (Nl.limbs m).length ≤ 1024) (hn : -9223372036854775808 ≤ n) (hn2 : n ≤ 9223372036854775807) : NatDoes 173 #[.pointer (some ⟨K + 1, 0, none⟩), .pointer (some ⟨K, 0, none⟩)] w (shrK m n) (m / 2 ^ n.toNat) := by
  obtain ⟨k, hk⟩ : ∃ k : Int, k = shrK m n := ⟨_, rfl⟩
  rw [← hk]
  have HK := Lib.hid hk
  clear hk
  intro W hW
  have k1 := (hW.cell (p := ⟨K, 0, none⟩) (show K < w.heap.size by omega)).trans hK1
  have k2 := (hW.cell (p := ⟨K + 1, 0, none⟩) hl).trans hK2
  have ha' := ha.below hW
  obtain ⟨a, ca, rfl, -⟩ := ha'.form
  have HA := Lib.hid ha'
  clear hK1 hK2 ha hW ha' hl
  by_cases h0 : 0 ≤ n
  · have e0 : decide (0 ≤ n) = true := decide_eq_true h0
    have hk := HK.out
    rw [shrK, if_pos h0] at hk
    have HK' := Lib.hid hk
    clear hk HK
    obtain ⟨j, rfl⟩ : ∃ j : Nat, n = j := ⟨n.toNat, by omega⟩
    rw [Int.toNat_natCast]
    go_enter Tryz.func173, Tryz.ntmps173
    go_wp2_with (go_at_call 55; refine (must_yes _ _).mono ?_; rintro e w' ⟨rfl, rfl⟩)
    refine (shiftedRight_any _ m j _ HA.out (by omega) (by omega)).mono ?_
    rintro e w2 ⟨⟨v, rfl, hv⟩, hb2⟩
    have HV := Lib.hid hv
    have HB2 := Lib.hid hb2
    clear hv hb2 e0 k1 k2
    go_wp2_with fail
    go_ret
    exact ⟨HB2.out, .inl ⟨HK'.out, v, rfl, HV.out⟩⟩
  · have e0 : decide (0 ≤ n) = false := decide_eq_false h0
    have hk := HK.out
    rw [shrK, if_neg h0] at hk
    have HK' := Lib.hid hk
    clear hk HK
    go_enter Tryz.func173, Tryz.ntmps173
    go_wp2_with (go_at_call 55; refine (must_no _ _).mono ?_; rintro e w' ⟨rfl, rfl⟩)
    exact ⟨rfl, Below.refl _ _, .inr ⟨by rw [HK'.out]; decide, by rw [HK'.out]⟩⟩

set_option maxHeartbeats 1000000 in
theorem shr_any (va : Value) (xs : List Nat) (n : Int) (w : World) (ha : At w va xs) (hsx : Nl.Small xs) (hn : -9223372036854775808 ≤ n) (hn2 : n ≤ 9223372036854775807) :
    Calls Tryz.prog 127 #[va, .int .i64 n] w fun e w' => Res1 w w' e xs (shrK (Nl.val xs) n) (Nl.val xs / 2 ^ n.toNat) := by
  have hmf : ∀ (fn : Fn) (first cap : Array Value) (w : World), (Instr.makeFunc fn first cap).run Tryz.prog w = .ok (.func fn first cap) w := fun _ _ _ _ => rfl
  have HA := Lib.hid ha
  obtain ⟨a, ca, rfl, -⟩ := ha.form
  clear ha
  go_enter Tryz.func127, Tryz.ntmps127
  go_wp2_with fail
  obtain ⟨W, hW⟩ : ∃ W, W = ((w.alloc (.cells #[.slice a xs.length ca] 23)).alloc (.cells #[.int .i64 n] 3)).alloc (.cells #[.slice a xs.length ca] 23) := ⟨_, rfl⟩
  rw [← hW]
  obtain ⟨hbl, hsz, c1, c2, c3⟩ := boxes3 w _ _ _ _ _ W hW
  clear hW
  refine (one_one _ _ w W (shrK (Nl.val xs) n) (Nl.val xs / 2 ^ n.toNat) (w.heap.size + 1 + 1) _ xs hbl (by omega) c3 HA.out (fun h1 => ?_) (fun _ _ => by kernel_rfl)).mono ?_
  · exact shr1_does _ _ n w.heap.size W c1 c2 (by omega) ((HA.out.num hsx h1).below hbl) (validB_eq hsx h1).2 hn hn2
  clear c1 c2 c3 hbl hsz
  rintro e w1 ⟨c, hc, ⟨v, rfl, h2, h3⟩, hb1⟩
  have HR := Lib.hid (And.intro hc (And.intro h2 (And.intro h3 hb1)))
  clear hc h2 h3 hb1
  go_wp2_with fail
  go_ret2
  exact ⟨c, HR.out.1, ⟨v, rfl, HR.out.2.1, HR.out.2.2.1⟩, HR.out.2.2.2⟩

end Go.Proofs.YtkbghamkalidcaaGreat

namespace Go.Proofs.YtkbghamkalidcaaGreat
open Go.RowKit

theorem natFromUint_any (x : Nat) (w : World) (hx : x < 18446744073709551616) : Calls Tryz.prog 114 #[.int .u64 x] w fun e w' => (∃ v, e = .returned v ∧ Own w.heap.size w' v (Nl.limbs x)) ∧ Below w.heap.size w w' := by
  have hl : (Nl.limbs x).length ≤ 1024 := by
    have : (Nl.limbs x).length ≤ 2 := Nl.limbs_lt (by omega)
    omega
  go_enter Tryz.func114, Tryz.ntmps114
  go_wp2_with fail
  refine (fromUint_num x w hx).mono ?_
  rintro e w1 ⟨⟨v, rfl, hv⟩, hb1⟩
  have HV := Lib.hid hv
  have HB := Lib.hid hb1
  clear hv hb1
  go_wp2_with fail
  refine (kept_yes v x w1 HV.out.at.at hl).mono ?_
  rintro e w2 ⟨⟨u, rfl, hu⟩, hb2⟩
  have HU := Lib.hid hu
  have HB2 := Lib.hid hb2
  clear hu hb2
  go_wp2_with fail
  go_ret
  exact ⟨⟨u, rfl, HU.out.mono HB.out.size⟩, HB.out.trans (HB2.out.mono HB.out.size)⟩
end Go.Proofs.YtkbghamkalidcaaGreat

namespace Go.Proofs.YtkbghamkalidcaaGreat
open Go.RowKit

end Go.Proofs.YtkbghamkalidcaaGreat

namespace Go.Proofs.YtkbghamkalidcaaGreat
open Go.RowKit

theorem at_any (v : Value) (xs : List Nat) (i : Nat) (w : World) (h : At w v xs) (hs : Nl.Small xs) :
    Calls Tryz.prog 153 #[v, .int .i64 i] w fun e w' => e = .returned (.int .u64 ((xs.getD i 0 : Nat) : Int)) ∧ w = w' := by
  by_cases hl : xs.length ≤ i
  · rw [show xs.getD i 0 = 0 by rw [List.getD_eq_getElem?_getD, List.getElem?_eq_none hl]; rfl]
    have e0 : decide (xs.length ≤ i) = true := decide_eq_true hl
    obtain ⟨a, ca, rfl, -⟩ := h.form
    clear h hl
    go_enter Tryz.func153, Tryz.ntmps153
    go_wp2
    go_ret
    exact ⟨rfl, rfl⟩
  · have e0 : decide (xs.length ≤ i) = false := decide_eq_false hl
    rcases h with ⟨rfl, rfl⟩ | ⟨b, off, cap, rfl, -, hc, hm, hb, hx⟩
    · simp at hl
    have c0 := hx i (by omega)
    have hi' : i < xs.length := by omega
    have hsm := hs.getD i
    obtain ⟨x, ex⟩ : ∃ x, xs.getD i 0 = x := ⟨_, rfl⟩
    rw [ex] at c0 hsm ⊢
    have hwx : IntKind.u64.wrap (x : Int) = x := by rw [IntKind.wrap_u64]; omega
    clear hx ex hl hs
    go_enter Tryz.func153, Tryz.ntmps153
    go_wp2
    go_ret
    exact ⟨rfl, rfl⟩
set_option maxHeartbeats 1000000 in
theorem refValid_any (v : Value) (xs : List Nat) (w : World) (h : At w v xs) :
    Calls Tryz.prog 128 #[v] w fun e w' => e = .returned (.bool (validB xs)) ∧ w = w' := by
  by_cases hl : xs.length ≤ 1024
  · have hl' : decide ((xs.length : Int) ≤ 1024) = true := by simp; omega
    by_cases h0 : xs.length = 0
    · have e0 : ((xs.length : Int) == 0) = true := by simp [h0]
      have hx : xs = [] := List.eq_nil_of_length_eq_zero h0
      have hb : validB xs = true := by rw [hx]; rfl
      rw [hb]
      obtain ⟨a, ca, rfl, -⟩ := h.form
      clear h hx hb h0 hl
      go_enter Tryz.func128, Tryz.ntmps128
      go_wp2
      go_ret
      exact ⟨rfl, rfl⟩
    · have e0 : ((xs.length : Int) == 0) = false := by rw [beq_eq_false_iff_ne]; omega
      rcases h with ⟨rfl, rfl⟩ | ⟨b, off, cap, rfl, -, hc, hm, hb, hx⟩
      · simp at h0
      have c0 := hx (xs.length - 1) (by omega)
      have hla := getLast_getD (xs := xs) (by omega)
      obtain ⟨x, ex⟩ : ∃ x, xs.getD (xs.length - 1) 0 = x := ⟨_, rfl⟩
      rw [ex] at c0 hla
      have hv : validB xs = !(x == 0) := by
        rw [validB, hla, decide_eq_true hl, Bool.true_and]
        simp [bne]
      rw [hv]
      have hpos : 1 ≤ xs.length := by omega
      clear hx hla ex hv h0
      by_cases hx0 : x = 0
      · have t0 : ((x : Int) != 0) = false := by simp [hx0]
        have t1 : (!(x == 0)) = false := by simp [hx0]
        rw [t1]
        clear t1 hx0
        go_enter Tryz.func128, Tryz.ntmps128
        go_wp2
        go_ret
        exact ⟨rfl, rfl⟩
      · have t0 : ((x : Int) != 0) = true := by rw [bne_iff_ne]; omega
        have t1 : (!(x == 0)) = true := by simp [hx0]
        rw [t1]
        clear t1 hx0
        go_enter Tryz.func128, Tryz.ntmps128
        go_wp2
        go_ret
        exact ⟨rfl, rfl⟩
  · have hl' : decide ((xs.length : Int) ≤ 1024) = false := by simp; omega
    rw [validB_long (by omega)]
    obtain ⟨a, ca, rfl, -⟩ := h.form
    clear h hl
    go_enter Tryz.func128, Tryz.ntmps128
    go_wp2
    go_ret
    exact ⟨rfl, rfl⟩

/-- are two lists the same? -/
def sameB (xs ys : List Nat) : Bool := decide (xs = ys)
theorem take_all {xs ys : List Nat} {k : Nat} (hl : xs.length = ys.length) (hk : xs.length ≤ k) (h : xs.take k = ys.take k) : xs = ys := by
  rw [List.take_of_length_le hk, List.take_of_length_le (by omega)] at h
  exact h
theorem take_snoc {xs ys : List Nat} {k : Nat} (hl : xs.length = ys.length) (hk : k < xs.length) (h : xs.take k = ys.take k) (hx : xs.getD k 0 = ys.getD k 0) : xs.take (k + 1) = ys.take (k + 1) := by
  have hk2 : k < ys.length := by omega
  rw [List.getD_eq_getElem?_getD, List.getD_eq_getElem?_getD, List.getElem?_eq_getElem hk, List.getElem?_eq_getElem hk2] at hx
  rw [List.take_add_one, List.take_add_one, h, List.getElem?_eq_getElem hk, List.getElem?_eq_getElem hk2]
  simp only [Option.getD_some] at hx
  rw [hx]

set_option maxHeartbeats 1000000 in
theorem same_any (va vb : Value) (xs ys : List Nat) (w : World) (ha : At w va xs) (hb : At w vb ys) :
    Calls Tryz.prog 87 #[va, vb] w fun e w' => e = .returned (.bool (sameB xs ys)) ∧ ∃ k, w' = w.drewN k := by
  have sa := ha.short
  have sb := hb.short
  obtain ⟨a, ca, rfl, fa⟩ := ha.form
  obtain ⟨b, cb, rfl, fb⟩ := hb.form
  clear ha hb
  by_cases hl : xs.length = ys.length
  · have e0 : ((xs.length : Int) != (ys.length : Int)) = false := by simp [hl]
    have HL := Lib.hid hl
    clear hl
    go_enter Tryz.func87, Tryz.ntmps87
    go_wp2
    go_loopw [5] (fun i wr => ∃ k : Nat, k ≤ xs.length ∧ i = .int .i64 (k : Int) ∧ Hid (xs.take k = ys.take k) ∧ Hid (∃ j, wr = w.drewN j)) (fun i _ => xs.length - (intOf i).toNat)
    case atStart => exact ⟨0, Nat.zero_le _, rfl, by simp [Hid], ⟨0, rfl⟩⟩
    case round =>
      obtain ⟨k, hk, rfl, hd, hw⟩ := hrel
      by_cases hkl : k < xs.length
      · have t0 : decide (k < xs.length) = true := decide_eq_true hkl
        obtain ⟨x, hx⟩ : ∃ x, x = xs.getD k 0 := ⟨_, rfl⟩
        obtain ⟨y, hy⟩ : ∃ y, y = ys.getD k 0 := ⟨_, rfl⟩
        rcases fa with fa | ⟨ba, oa, rfl, -, hca, -, hba, hcx⟩
        · rw [fa] at hkl; simp at hkl
        have hkb : k < ys.length := by have := HL.out; omega
        rcases fb with fb | ⟨bb, ob, rfl, -, hcb, -, hbb, hcy⟩
        · rw [fb] at hkb; simp at hkb
        have c1 := hcx k hkl
        have c2 := hcy k hkb
        rw [← hx] at c1
        rw [← hy] at c2
        have c1' : wr.cell? ⟨ba, oa + k, none⟩ = some (.int .u32 (x : Int)) := by obtain ⟨q, rfl⟩ := hw.out; exact c1
        have c2' : wr.cell? ⟨bb, ob + k, none⟩ = some (.int .u32 (y : Int)) := by obtain ⟨q, rfl⟩ := hw.out; exact c2
        have Hx := Lib.hid hx
        have Hy := Lib.hid hy
        clear hx hy c1 c2 hcx hcy
        by_cases hxy : x = y
        · have e1 : ((x : Int) != (y : Int)) = false := by simp [hxy]
          have HE := Lib.hid hxy
          clear hxy
          go_wp2
          go_quiet (fail)
          go_wp2
          go_roundw
          case rel =>
            refine ⟨k + 1, hkl, by go_num, take_snoc HL.out hkl hd.out (by rw [← Hx.out, ← Hy.out]; exact HE.out), ?_⟩
            obtain ⟨q, hq⟩ := hw.out
            exact ⟨q + nq, by rw [hq]; exact drewN_drewN ..⟩
          case measure => simp [intOf] <;> omega
        · have e1 : ((x : Int) != (y : Int)) = true := by rw [bne_iff_ne]; omega
          have hf : sameB xs ys = false := decide_eq_false fun h => hxy (by rw [Hx.out, Hy.out, h])
          have HF := Lib.hid hf
          clear hxy hf
          go_wp2
          go_quiet (fail)
          go_wp2
          go_ret
          obtain ⟨q, hq⟩ := hw.out
          exact ⟨by rw [HF.out]; rfl, q + nq, by rw [hq]; exact drewN_drewN ..⟩
      · have t0 : decide (k < xs.length) = false := decide_eq_false hkl
        have hf : sameB xs ys = true := decide_eq_true (take_all HL.out (by omega) hd.out)
        have HF := Lib.hid hf
        clear hf hkl
        go_wp2
        go_ret
        exact ⟨by rw [HF.out]; rfl, hw.out⟩
  · have e0 : ((xs.length : Int) != (ys.length : Int)) = true := by rw [bne_iff_ne]; omega
    have hf : sameB xs ys = false := decide_eq_false fun h => hl (by rw [h])
    rw [hf]
    clear hf hl
    go_enter Tryz.func87, Tryz.ntmps87
    go_wp2
    go_ret
    exact ⟨rfl, 0, rfl⟩
end Go.Proofs.YtkbghamkalidcaaGreat
