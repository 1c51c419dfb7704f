/-
  An integer cut to some bits. Conditions: those that each theorem names.
  What Wrap of package whole does. Written by wip/tool/genops2.py. Conditions: those that each theorem names.
  What Bits of package whole does. Written by wip/tool/genops2.py. Conditions: those that each theorem names.
  WholeRing returns true for any three integers. Written by wip/tool/genring2.py. Conditions: those that each theorem names.
  The law's ops: And, Or and Xor of two integers. Written by wip/tool/genops_l.py. Conditions: those that each theorem names.
-/
import Derived.Test.YtkbghamkalidcaaGreatPairIAll
import Derived.Deep.Cut
import Derived.Test.YtkbghamkalidcaaGreatWholeOps
import Derived.Test.YtkbghamkalidcaaGreatCombI
import Derived.Test.YtkbghamkalidcaaGreatAwake
import Derived.Test.YtkbghamkalidcaaGreatLawFns
import Derived.Test.YtkbghamkalidcaaGreatBitMAll
import Derived.Test.YtkbghamkalidcaaGreatCommonI
namespace Go.Proofs.YtkbghamkalidcaaGreat
open Go.RowKit

end Go.Proofs.YtkbghamkalidcaaGreat

namespace Go.Proofs.YtkbghamkalidcaaGreat
open Go.RowKit

/-- what a call gives: an integer, or an error; k: the work's own error -/
def ResK (w w' : World) (e : Ending) (ok : Bool) (k n : Int) : Prop := ∃ c, c = (if ok = true then codeI k n else 1) ∧ WOut w w' e c n
end Go.Proofs.YtkbghamkalidcaaGreat

namespace Go.Proofs.YtkbghamkalidcaaGreat
open Go.RowKit

def bitsK (n : Int) : Int := if 1 ≤ n ∧ n ≤ 3 then 0 else 1
/-- an operation on bits -/
def opI (k : Nat) (a b : Int) : Int := Nl.twos (4294967296 ^ (max (Nl.limbs a.natAbs).length (Nl.limbs b.natAbs).length + 1)) (Nl.bop k (Nl.low a (4294967296 ^ (max (Nl.limbs a.natAbs).length (Nl.limbs b.natAbs).length + 1))) (Nl.low b (4294967296 ^ (max (Nl.limbs a.natAbs).length (Nl.limbs b.natAbs).length + 1))))
set_option maxHeartbeats 2000000 in
theorem Bits_1_does (s0 : Bool) (p0 : Option Addr) (l0 c0 : Nat) (a : Int) (s1 : Bool) (p1 : Option Addr) (l1 c1 : Nat) (b : Int) (n : Int) (K : Nat) (w : World) (h0 : BoxI w K s0 p0 l0 c0) (g0 : IsI w (.agg #[.bool s0, .slice p0 l0 c0]) a) (la : fitI a) (h1 : BoxI w (K + 1) s1 p1 l1 c1) (g1 : IsI w (.agg #[.bool s1, .slice p1 l1 c1]) b) (lb : fitI b) (hn : w.heap[K + 2]? = some (.cells #[.int .i64 n] 3 (0, 0))) :
    IntDoes 57 #[.pointer (some ⟨K + 2, 0, none⟩), .pointer (some ⟨K, 0, none⟩), .pointer (some ⟨K + 1, 0, none⟩)] w (bitsK n) (opI n.toNat a b) := by
  intro W hW
  obtain ⟨V, hV⟩ : ∃ V, V = W.alloc (.cells #[.bool false, .slice none 0 0] 78) := ⟨_, rfl⟩
  have hbV : Below W.heap.size W V := by rw [hV]; exact below_one W _
  have hQ : V.heap[W.heap.size]? = some (.cells #[.bool false, .slice none 0 0] 78 (0, 0)) := by rw [hV]; exact heap_alloc_new _ _
  have bh0 := (hbV.block _ (Nat.lt_of_lt_of_le (lt_of_block h0) hW.size)).trans ((hW.block _ (lt_of_block h0)).trans h0)
  have kh00 := cell_of_row _ _ 0 _ _ (0, 0) bh0
  have kh01 := cell_of_row _ _ 1 _ _ (0, 0) bh0
  have bh1 := (hbV.block _ (Nat.lt_of_lt_of_le (lt_of_block h1) hW.size)).trans ((hW.block _ (lt_of_block h1)).trans h1)
  have kh10 := cell_of_row _ _ 0 _ _ (0, 0) bh1
  have kh11 := cell_of_row _ _ 1 _ _ (0, 0) bh1
  have bhn := (hbV.block _ (Nat.lt_of_lt_of_le (lt_of_block hn) hW.size)).trans ((hW.block _ (lt_of_block hn)).trans hn)
  have khn0 := cell_of_row _ _ 0 _ _ (0, 0) bhn
  simp only [List.getElem?_toArray, List.getElem?_cons_zero, List.getElem?_cons_succ] at kh00 kh01 kh10 kh11 khn0
  have HV := Lib.hid (And.intro hbV hQ)
  have hi0 := (g0.below hW).below hbV
  have hi1 := (g1.below hW).below hbV
  rw [hV] at kh00 kh01 kh10 kh11 khn0
  clear h0 h1 hn g0 g1 bh0 bh1 bhn hW hbV hQ
  by_cases hr : 1 ≤ n ∧ n ≤ 3
  · obtain ⟨m, rfl⟩ : ∃ m : Nat, n = m := ⟨n.toNat, by omega⟩
    have HK := Lib.hid (show bitsK m = 0 from if_pos hr)
    have t1 : decide ((m : Int) ≥ 1) = true := decide_eq_true hr.1
    have t2 : decide ((m : Int) ≤ 3) = true := decide_eq_true hr.2
    have HC := Lib.hid (combined_any _ _ a b m _ V hi0 hi1 (by omega) (by omega) rfl (by have h5 : (Nl.limbs a.natAbs).length ≤ 1024 := la; have h6 : (Nl.limbs b.natAbs).length ≤ 1024 := lb; omega))
    clear hi0 hi1 hr
    go_enter Tryz.func57, Tryz.ntmps57
    go_wp2_with (go_at_call 55; refine (must_yes _ _).mono ?_; rintro e w' ⟨rfl, rfl⟩)
    rw [← hV]
    clear hV
    refine HC.out.mono ?_
    rintro e w1 ⟨⟨t, a', l', c', rfl, hi⟩, hb1⟩
    clear kh00 kh01 kh10 kh11 khn0
    have BQ := (hb1.block _ (lt_of_block HV.out.2)).trans HV.out.2
    have f0 := frozen_of_row _ _ 0 _ _ BQ
    have f1 := frozen_of_row _ _ 1 _ _ BQ
    have g0 := cell_of_row _ _ 0 _ _ (0, 0) BQ
    have g1 := cell_of_row _ _ 1 _ _ (0, 0) BQ
    have HH := Lib.hid (And.intro hi (And.intro hb1 BQ))
    clear hi hb1 BQ HC
    go_wp2_with fail
    refine bodyPost_ret (v := .agg #[.bool t, .slice a' l' c']) (results_cell_row Tryz.results57 _ _ W.heap.size 78 _ (0, 0) _ rfl (ibox_set _ _ HH.out.2.2) Tryz.underlying78 rfl (by kernel_rfl)) rfl ?_
    refine ⟨below_ibox (HV.out.1.trans (HH.out.2.1.mono HV.out.1.size)) (Nat.le_refl _) _ _, .inl ⟨HK.out, _, rfl, ?_⟩⟩
    obtain ⟨v5, e5, hv5⟩ := HH.out.1
    exact ⟨v5, e5, at_ibox _ _ hv5 HH.out.2.2⟩

  · have HK := Lib.hid (show bitsK n = 1 from if_neg hr)
    by_cases h2 : n ≥ 1
    · have t1 : decide (n ≥ 1) = true := decide_eq_true h2
      have t2 : decide (n ≤ 3) = false := decide_eq_false (fun h => hr ⟨h2, h⟩)
      clear hr h2
      go_enter Tryz.func57, Tryz.ntmps57
      go_wp2_with (go_at_call 55; refine (must_no _ _).mono ?_; rintro e w' ⟨rfl, rfl⟩)
      rw [← hV]
      first
        | exact ⟨rfl, HV.out.1, .inr ⟨by rw [HK.out]; decide, by rw [HK.out]⟩⟩
        | exact ⟨HV.out.1, .inr ⟨by rw [HK.out]; decide, by rw [HK.out]⟩⟩
    · have t1 : decide (n ≥ 1) = false := decide_eq_false h2
      clear hr h2
      go_enter Tryz.func57, Tryz.ntmps57
      go_wp2_with (go_at_call 55; refine (must_no _ _).mono ?_; rintro e w' ⟨rfl, rfl⟩)
      rw [← hV]
      first
        | exact ⟨rfl, HV.out.1, .inr ⟨by rw [HK.out]; decide, by rw [HK.out]⟩⟩
        | exact ⟨HV.out.1, .inr ⟨by rw [HK.out]; decide, by rw [HK.out]⟩⟩

set_option maxHeartbeats 2000000 in
theorem wholeBits_any (v0 : Value) (s0 : Bool) (xs0 : List Nat) (v1 : Value) (s1 : Bool) (xs1 : List Nat) (n : Int) (w : World) (h0 : AtI w v0 s0 xs0) (m0 : Nl.Small xs0) (h1 : AtI w v1 s1 xs1) (m1 : Nl.Small xs1) :
    Calls Tryz.prog 22 #[v0, v1, .int .i64 n] w fun e w' => ResK w w' e (validI s0 xs0 && validI s1 xs1) (bitsK n) (opI n.toNat (sgn s0 (Nl.val xs0)) (sgn s1 (Nl.val xs1))) := by
  have hmf : ∀ (fn : Fn) (first cap : Array Value) (w : World), (Instr.makeFunc fn first cap).run Tryz.prog w = .ok (.func fn first cap) w := fun _ _ _ _ => rfl
  obtain ⟨p0, c0, rfl, u0⟩ := h0.form
  obtain ⟨p1, c1, rfl, u1⟩ := h1.form
  obtain ⟨W, hW⟩ : ∃ W, W = (((((w.alloc (.cells #[.bool s0, .slice p0 xs0.length c0] 25)).alloc (.cells #[.bool s1, .slice p1 xs1.length c1] 25)).alloc (.cells #[.int .i64 n] 3)).alloc (.cells #[.bool false, .slice none 0 0] 25)).alloc (.cells #[.bool s0, .slice p0 xs0.length c0, .bool s1, .slice p1 xs1.length c1] 25)) := ⟨_, rfl⟩
  have hb : Below w.heap.size w W := by rw [hW]; exact ((((((Below.refl _ _).alloc (by simp <;> omega) _).alloc (by simp <;> omega) _).alloc (by simp <;> omega) _).alloc (by simp <;> omega) _).alloc (by simp <;> omega) _)
  have hs : W.heap.size = w.heap.size + 5 := by rw [hW]; simp
  have B0 : W.heap[w.heap.size + 0]? = some (.cells #[.bool s0, .slice p0 xs0.length c0] 25 (0, 0)) := by rw [hW]; exact al_keep _ _ (by simp <;> omega) (al_keep _ _ (by simp <;> omega) (al_keep _ _ (by simp <;> omega) (al_keep _ _ (by simp <;> omega) (al_at _ _ (by simp)))))
  have B1 : W.heap[w.heap.size + 1]? = some (.cells #[.bool s1, .slice p1 xs1.length c1] 25 (0, 0)) := by rw [hW]; exact al_keep _ _ (by simp <;> omega) (al_keep _ _ (by simp <;> omega) (al_keep _ _ (by simp <;> omega) (al_at _ _ (by simp))))
  have B2 : W.heap[w.heap.size + 2]? = some (.cells #[.int .i64 n] 3 (0, 0)) := by rw [hW]; exact al_keep _ _ (by simp <;> omega) (al_keep _ _ (by simp <;> omega) (al_at _ _ (by simp)))
  have B3 : W.heap[w.heap.size + 3]? = some (.cells #[.bool false, .slice none 0 0] 25 (0, 0)) := by rw [hW]; exact al_keep _ _ (by simp <;> omega) (al_at _ _ (by simp))
  have B4 : W.heap[w.heap.size + 4]? = some (.cells #[.bool s0, .slice p0 xs0.length c0, .bool s1, .slice p1 xs1.length c1] 25 (0, 0)) := by rw [hW]; exact al_at _ _ (by simp)
  have HO := Lib.hid (ione_any 57 #[.pointer (some ⟨w.heap.size + 2, 0, none⟩), .pointer (some ⟨w.heap.size, 0, none⟩), .pointer (some ⟨w.heap.size + 1, 0, none⟩)] W (bitsK n) (opI n.toNat (sgn s0 (Nl.val xs0)) (sgn s1 (Nl.val xs1))) (w.heap.size + 4) [(s0, .slice p0 xs0.length c0, xs0), (s1, .slice p1 xs1.length c1, xs1)] (givenI_two (w.heap.size + 4) B4 (u0.below hb) (u1.below hb)) (by omega) (by simp) (fun hall => by
    have o0 := isI_of_ok (u0.below hb) m0 (hall (s0, .slice p0 xs0.length c0, xs0) (by simp))
    have o1 := isI_of_ok (u1.below hb) m1 (hall (s1, .slice p1 xs1.length c1, xs1) (by simp))
    exact Bits_1_does _ _ _ _ _ _ _ _ _ _ n w.heap.size W B0 o0.1 o0.2 B1 o1.1 o1.2 B2) (fun _ _ => by kernel_rfl))
  have HB := Lib.hid (And.intro hb (And.intro hs B3))
  clear h0 u0 m0 h1 u1 m1 hb hs B0 B1 B2 B3 B4
  go_enter Tryz.func22, Tryz.ntmps22
  go_wp2_with fail
  rw [← hW]
  clear hW
  refine HO.out.mono ?_
  rintro e w1 ⟨c, hc, ⟨v, rfl, h2, h3⟩, hb1⟩
  have hform : ∃ t p l cp, v = .agg #[.bool t, .slice p l cp] := by
    by_cases h0 : c = 0
    · obtain ⟨pp, cc, rfl, -⟩ := (h2 h0).form
      exact ⟨_, _, _, _, rfl⟩
    · rw [h3 h0]; exact ⟨_, _, _, _, rfl⟩
  obtain ⟨t, p, l, cp, rfl⟩ := hform
  have BQ := (hb1.block _ (lt_of_block HB.out.2.2)).trans HB.out.2.2
  have f0 := frozen_of_row _ _ 0 _ _ BQ
  have f1 := frozen_of_row _ _ 1 _ _ BQ
  have g0 := cell_of_row _ _ 0 _ _ (0, 0) BQ
  have g1 := cell_of_row _ _ 1 _ _ (0, 0) BQ
  have HR := Lib.hid (And.intro hc (And.intro h2 (And.intro h3 (And.intro hb1 BQ))))
  clear hc h2 h3 hb1 BQ HO
  go_wp2_with fail
  refine bodyPost_ret (v := .tuple #[.agg #[.bool t, .slice p l cp], .int .i64 c]) (results_int1 Tryz.results22 _ _ (w.heap.size + 3) _ _ rfl rfl (load_int (ibox_set (g := w.heap.size + 3) _ _ HR.out.2.2.2.2))) rfl ?_
  refine ⟨c, ?_, ⟨_, rfl, fun h0 => ?_, HR.out.2.2.1⟩, below_ibox (HB.out.1.trans (HR.out.2.2.2.1.mono HB.out.1.size)) (g := w.heap.size + 3) (by omega) _ _⟩
  · rcases HR.out.1 with ⟨hall, h1⟩ | ⟨⟨q, hq, h5⟩, h1⟩
    · rw [h1, if_pos (by rw [Bool.and_eq_true]; exact ⟨hall (s0, .slice p0 xs0.length c0, xs0) (by simp), hall (s1, .slice p1 xs1.length c1, xs1) (by simp)⟩)]
    · rw [h1, if_neg]
      intro hok
      rw [Bool.and_eq_true] at hok; simp only [List.mem_cons, List.not_mem_nil, or_false] at hq; rcases hq with rfl | rfl; exact Bool.noConfusion (h5.symm.trans hok.1); exact Bool.noConfusion (h5.symm.trans hok.2)
  · obtain ⟨u, hu1, hu2⟩ := HR.out.2.1 h0
    simp only [Value.agg.injEq, Array.mk.injEq, List.cons.injEq, Value.bool.injEq, and_true] at hu1
    obtain ⟨rfl, rfl⟩ := hu1
    exact AtI.mk (at_ibox (g := w.heap.size + 3) _ _ hu2 HR.out.2.2.2.2)
end Go.Proofs.YtkbghamkalidcaaGreat

namespace Go.Proofs.YtkbghamkalidcaaGreat
open Go.RowKit

/-- what calls inside one expression have given so far -/
def Pend (w : World) (L : List (Value × Int × Nat)) : Prop := ∀ x ∈ L, IsS w x.1 x.2.1 x.2.2
theorem Pend.nil (w : World) : Pend w [] := fun _ h => by cases h
theorem Pend.on {w w' : World} {L : List (Value × Int × Nat)} (h : Pend w L) (hb : Below w.heap.size w w') : Pend w' L := fun x hx => (h x hx).below hb
theorem Pend.push {w : World} {L : List (Value × Int × Nat)} {v : Value} {n : Int} {k : Nat} (h : Pend w L) (hv : IsS w v n k) : Pend w ((v, n, k) :: L) := fun x hx => by
  rcases List.mem_cons.1 hx with rfl | hx
  · exact hv
  · exact h x hx
theorem Pend.g0 {w : World} {L : List (Value × Int × Nat)} {v : Value} {n : Int} {k : Nat} (h : Pend w ((v, n, k) :: L)) : IsS w v n k := h _ (List.mem_cons_self ..)
theorem Pend.g1 {w : World} {L : List (Value × Int × Nat)} {x : Value × Int × Nat} {v : Value} {n : Int} {k : Nat} (h : Pend w (x :: (v, n, k) :: L)) : IsS w v n k := h (v, n, k) (by simp)
theorem Pend.g2 {w : World} {L : List (Value × Int × Nat)} {x y : Value × Int × Nat} {v : Value} {n : Int} {k : Nat} (h : Pend w (x :: y :: (v, n, k) :: L)) : IsS w v n k := h (v, n, k) (by simp)
theorem Pend.g3 {w : World} {L : List (Value × Int × Nat)} {x y z : Value × Int × Nat} {v : Value} {n : Int} {k : Nat} (h : Pend w (x :: y :: z :: (v, n, k) :: L)) : IsS w v n k := h (v, n, k) (by simp)
theorem Pend.d {w : World} {L : List (Value × Int × Nat)} (h : Pend w L) : Pend w.drew L := h.on (below_drew0 w)
theorem equal_yes (va vb : Value) (a b : Int) (j k : Nat) (w : World) (ha : IsS w va a j) (hb : IsS w vb b k) (h : a = b) : Calls Tryz.prog 15 #[va, vb] w fun e w' => e = .returned (.bool true) ∧ Below w.heap.size w w' :=
  (equal_law va vb a b w ha.1 hb.1).mono fun e w' h' => ⟨by rw [h'.1, decide_eq_true h], h'.2⟩
theorem fine_one {most : Nat} {s : Bool} {v : Value} {xs : List Nat} {w : World} (h : fineP most (s, v, xs) = true) (hat : At w v xs) (hs : Nl.Small xs) : ∃ n : Int, IsS w (.agg #[.bool s, v]) n most := by
  rw [fineP, Bool.and_eq_true] at h
  have ok := isI_of_ok hat hs h.2
  refine ⟨_, ok.1, ?_⟩
  have h1 := (validI_norm hs h.2).2.1
  rw [← h1]
  exact of_decide_eq_true h.1
end Go.Proofs.YtkbghamkalidcaaGreat

namespace Go.Proofs.YtkbghamkalidcaaGreat
open Go.RowKit

theorem opI_size (k : Nat) (a b : Int) {j : Nat} (la : (Nl.limbs a.natAbs).length ≤ j) (lb : (Nl.limbs b.natAbs).length ≤ j) : (Nl.limbs (opI k a b).natAbs).length ≤ j + 1 := by
  obtain ⟨n, hn⟩ : ∃ n, n = max (Nl.limbs a.natAbs).length (Nl.limbs b.natAbs).length + 1 := ⟨_, rfl⟩
  rw [opI, ← hn]
  refine Nat.le_trans (Nl.limbs_lt (k := n) ?_) (by omega)
  have h2 := Nl.bop_lt k (n := 32 * n) (x := Nl.low a (4294967296 ^ n)) (y := Nl.low b (4294967296 ^ n)) (by rw [← pow32]; exact Nl.low_lt _ _ (Nl.pow_pos n)) (by rw [← pow32]; exact Nl.low_lt _ _ (Nl.pow_pos n))
  rw [← pow32] at h2
  obtain ⟨P, hP⟩ : ∃ P, P = 4294967296 ^ n := ⟨_, rfl⟩
  rw [← hP] at h2 ⊢
  rw [Nl.twos]
  split <;> omega
theorem wBits_ok (va vb : Value) (a b h : Int) (k : Nat) (hh : h = (k : Int)) (w : World) (ha : IsI w va a) (hb : IsI w vb b) (la : (Nl.limbs a.natAbs).length ≤ 900) (lb : (Nl.limbs b.natAbs).length ≤ 900) (h1 : 1 ≤ k) (h3 : k ≤ 3) :
    Calls Tryz.prog 22 #[va, vb, .int .i64 h] w fun e w' => (∃ s p l c, e = .returned (.tuple #[.agg #[.bool s, .slice p l c], .int .i64 0]) ∧ IsI w' (.agg #[.bool s, .slice p l c]) (opI k a b)) ∧ Below w.heap.size w w' := by
  subst hh
  have hw := wholeBits_any va (negB a) (Nl.limbs a.natAbs) vb (negB b) (Nl.limbs b.natAbs) (k : Int) w ha (Nl.limbs_small _) hb (Nl.limbs_small _)
  rw [sgn_val, sgn_val, Int.toNat_natCast, bitsK, if_pos (by omega)] at hw
  refine hw.mono ?_
  rintro e w' ⟨c, hc, ⟨v, rfl, h4, h5⟩, hb⟩
  rw [if_pos (by rw [validI_of (Nat.le_trans la (by decide)), validI_of (Nat.le_trans lb (by decide))]; rfl), codeI_fit (show fitI _ from Nat.le_trans (opI_size k a b la lb) (by decide))] at hc
  subst hc
  obtain ⟨p, cp, rfl, hu⟩ := (h4 rfl).form
  exact ⟨⟨_, _, _, _, rfl, h4 rfl⟩, hb⟩
theorem isI_zero (w : World) : IsI w (.agg #[.bool false, .slice none 0 0]) 0 := by
  have h0 : Nl.limbs (0 : Int).natAbs = [] := Nl.limbs_zero
  rw [IsI, h0]
  exact AtI.mk (.inl ⟨rfl, rfl⟩)
set_option maxRecDepth 10000 in
set_option maxHeartbeats 16000000 in
theorem ops_law (va vb : Value) (a b : Int) (w : World) (ha : IsI w va a) (hb : IsI w vb b) (fa : (Nl.limbs a.natAbs).length ≤ 900) (fb : (Nl.limbs b.natAbs).length ≤ 900) :
    Calls Tryz.prog 13 #[va, vb] w fun e w' => (∃ sx px lx cx sy py ly cy sz pz lz cz, e = .returned (.tuple #[.agg #[.bool sx, .slice px lx cx], .agg #[.bool sy, .slice py ly cy], .agg #[.bool sz, .slice pz lz cz]]) ∧ IsI w' (.agg #[.bool sx, .slice px lx cx]) (opI 1 a b) ∧ IsI w' (.agg #[.bool sy, .slice py ly cy]) (opI 2 a b) ∧ IsI w' (.agg #[.bool sz, .slice pz lz cz]) (opI 3 a b)) ∧ Below w.heap.size w w' := by
  obtain ⟨pa, ca, rfl, ua⟩ := ha.form
  obtain ⟨la, hla⟩ : ∃ la, la = (Nl.limbs a.natAbs).length := ⟨_, rfl⟩
  rw [← hla] at ha ⊢
  obtain ⟨sa, hsa⟩ : ∃ sa, sa = negB a := ⟨_, rfl⟩
  rw [← hsa] at ha ⊢
  obtain ⟨pb, cb, rfl, ub⟩ := hb.form
  obtain ⟨lb, hlb⟩ : ∃ lb, lb = (Nl.limbs b.natAbs).length := ⟨_, rfl⟩
  rw [← hlb] at hb ⊢
  obtain ⟨sb, hsb⟩ : ∃ sb, sb = negB b := ⟨_, rfl⟩
  rw [← hsb] at hb ⊢
  obtain ⟨W, hW⟩ : ∃ W, W = ((((w.alloc (.cells #[.bool sa, .slice pa la ca] 25)).alloc (.cells #[.bool sb, .slice pb lb cb] 25)).alloc (.cells #[.bool false, .slice none 0 0] 25)).alloc (.cells #[.bool false, .slice none 0 0] 25)).alloc (.cells #[.bool false, .slice none 0 0] 25) := ⟨_, rfl⟩
  have hbW : Below w.heap.size w W := by rw [hW]; exact ((((((Below.refl _ _).alloc (by simp <;> omega) _).alloc (by simp <;> omega) _).alloc (by simp <;> omega) _).alloc (by simp <;> omega) _).alloc (by simp <;> omega) _)
  have B0 : W.heap[w.heap.size + 0]? = some (.cells #[.bool sa, .slice pa la ca] 25 (0, 0)) := by rw [hW]; exact al_keep _ _ (by simp <;> omega) (al_keep _ _ (by simp <;> omega) (al_keep _ _ (by simp <;> omega) (al_keep _ _ (by simp <;> omega) (al_at _ _ (by simp)))))
  have B1 : W.heap[w.heap.size + 1]? = some (.cells #[.bool sb, .slice pb lb cb] 25 (0, 0)) := by rw [hW]; exact al_keep _ _ (by simp <;> omega) (al_keep _ _ (by simp <;> omega) (al_keep _ _ (by simp <;> omega) (al_at _ _ (by simp))))
  have B2 : W.heap[w.heap.size + 2]? = some (.cells #[.bool false, .slice none 0 0] 25 (0, 0)) := by rw [hW]; exact al_keep _ _ (by simp <;> omega) (al_keep _ _ (by simp <;> omega) (al_at _ _ (by simp)))
  have B3 : W.heap[w.heap.size + 3]? = some (.cells #[.bool false, .slice none 0 0] 25 (0, 0)) := by rw [hW]; exact al_keep _ _ (by simp <;> omega) (al_at _ _ (by simp))
  have B4 : W.heap[w.heap.size + 4]? = some (.cells #[.bool false, .slice none 0 0] 25 (0, 0)) := by rw [hW]; exact al_at _ _ (by simp)
  have HW4 := Lib.hid (lt_of_block B4)
  have Va := Lib.hid (Kept.mk (g := w.heap.size) B0 (ha.below hbW))
  have Vb := Lib.hid (Kept.mk B1 (hb.below hbW))
  have HBW := Lib.hid hbW
  have HR := Lib.hid (And.intro B2 (And.intro B3 B4))
  have LA := Lib.hid (And.intro fa fb)
  clear ha hb ua ub hla hlb hsa hsb hbW B0 B1 B2 B3 B4 fa fb
  have Vf := Lib.hid (Kept.mk HR.out.1 (isI_zero W))
  have Vg := Lib.hid (Kept.mk HR.out.2.1 (isI_zero W))
  have Vh := Lib.hid (Kept.mk HR.out.2.2 (isI_zero W))
  have c0a := Va.out.c0
  have c1a := Va.out.c1
  have c0b := Vb.out.c0
  have c1b := Vb.out.c1
  rw [hW] at c0a c1a c0b c1b
  go_enter Tryz.func13, Tryz.ntmps13
  have HC1 := Lib.hid (wBits_ok _ _ a b 1 1 rfl W Va.out.num Vb.out.num LA.out.1 LA.out.2 (by decide) (by decide))
  go_wp2_with fail
  rw [← hW]
  clear hW
  refine HC1.out.mono ?_
  rintro e w1 ⟨⟨sx, px, lx, cx, rfl, hix⟩, hbx⟩
  have HSZ1 := Lib.hid hbx.size
  obtain ⟨Z1, hZ1⟩ : ∃ Z1, Z1 = (w1.alloc (.cells #[.bool sx, .slice px lx cx] 25)) := ⟨_, rfl⟩
  have hz : Below w1.heap.size w1 Z1 := by rw [hZ1]; exact below_one w1 _
  have Rx : Z1.heap[w1.heap.size]? = some (.cells #[.bool sx, .slice px lx cx] 25 (0, 0)) := by rw [hZ1]; exact al_at _ _ (by simp)
  have HLT1 := Lib.hid (lt_of_block Rx)
  have Ix := hix.below hz
  have hs := hbx.trans (hz.mono hbx.size)
  clear hix hz
  clear hbx HC1
  have Ya := Lib.hid (Va.out.on hs)
  clear Va
  have Va := Ya
  clear Ya
  have Yb := Lib.hid (Vb.out.on hs)
  clear Vb
  have Vb := Yb
  clear Yb
  have Yf := Lib.hid (Vf.out.on hs)
  clear Vf
  have Vf := Yf
  clear Yf
  have Yg := Lib.hid (Vg.out.on hs)
  clear Vg
  have Vg := Yg
  clear Yg
  have Yh := Lib.hid (Vh.out.on hs)
  clear Vh
  have Vh := Yh
  clear Yh
  have Vx := Lib.hid (Kept.mk Rx Ix)
  clear Rx Ix
  have HB1 := Lib.hid (below_on HBW.out hs)
  clear hs
  clear c0a c1a c0b c1b
  have c0a := Va.out.c0
  have c1a := Va.out.c1
  have c0b := Vb.out.c0
  have c1b := Vb.out.c1
  rw [hZ1] at c0a c1a c0b c1b
  have HC2 := Lib.hid (wBits_ok _ _ a b 2 2 rfl Z1 Va.out.num Vb.out.num LA.out.1 LA.out.2 (by decide) (by decide))
  go_wp2_with fail
  rw [← hZ1]
  clear hZ1
  refine HC2.out.mono ?_
  rintro e w2 ⟨⟨sy, py, ly, cy, rfl, hiy⟩, hbx⟩
  have HSZ2 := Lib.hid hbx.size
  obtain ⟨Z2, hZ2⟩ : ∃ Z2, Z2 = (w2.alloc (.cells #[.bool sy, .slice py ly cy] 25)) := ⟨_, rfl⟩
  have hz : Below w2.heap.size w2 Z2 := by rw [hZ2]; exact below_one w2 _
  have Ry : Z2.heap[w2.heap.size]? = some (.cells #[.bool sy, .slice py ly cy] 25 (0, 0)) := by rw [hZ2]; exact al_at _ _ (by simp)
  have HLT2 := Lib.hid (lt_of_block Ry)
  have Iy := hiy.below hz
  have hs := hbx.trans (hz.mono hbx.size)
  clear hiy hz
  clear hbx HC2
  have Ya := Lib.hid (Va.out.on hs)
  clear Va
  have Va := Ya
  clear Ya
  have Yb := Lib.hid (Vb.out.on hs)
  clear Vb
  have Vb := Yb
  clear Yb
  have Yf := Lib.hid (Vf.out.on hs)
  clear Vf
  have Vf := Yf
  clear Yf
  have Yg := Lib.hid (Vg.out.on hs)
  clear Vg
  have Vg := Yg
  clear Yg
  have Yh := Lib.hid (Vh.out.on hs)
  clear Vh
  have Vh := Yh
  clear Yh
  have Yx := Lib.hid (Vx.out.on hs)
  clear Vx
  have Vx := Yx
  clear Yx
  have Vy := Lib.hid (Kept.mk Ry Iy)
  clear Ry Iy
  have HB2 := Lib.hid (below_on HB1.out hs)
  clear hs
  clear HB1
  clear c0a c1a c0b c1b
  have c0a := Va.out.c0
  have c1a := Va.out.c1
  have c0b := Vb.out.c0
  have c1b := Vb.out.c1
  rw [hZ2] at c0a c1a c0b c1b
  have HC3 := Lib.hid (wBits_ok _ _ a b 3 3 rfl Z2 Va.out.num Vb.out.num LA.out.1 LA.out.2 (by decide) (by decide))
  go_wp2_with fail
  rw [← hZ2]
  clear hZ2
  refine HC3.out.mono ?_
  rintro e w3 ⟨⟨sz, pz, lz, cz, rfl, hiz⟩, hbx⟩
  have HSZ3 := Lib.hid hbx.size
  obtain ⟨Z3, hZ3⟩ : ∃ Z3, Z3 = (w3.alloc (.cells #[.bool sz, .slice pz lz cz] 25)) := ⟨_, rfl⟩
  have hz : Below w3.heap.size w3 Z3 := by rw [hZ3]; exact below_one w3 _
  have Rz : Z3.heap[w3.heap.size]? = some (.cells #[.bool sz, .slice pz lz cz] 25 (0, 0)) := by rw [hZ3]; exact al_at _ _ (by simp)
  have HLT3 := Lib.hid (lt_of_block Rz)
  have Iz := hiz.below hz
  have hs := hbx.trans (hz.mono hbx.size)
  clear hiz hz
  clear hbx HC3
  have Ya := Lib.hid (Va.out.on hs)
  clear Va
  have Va := Ya
  clear Ya
  have Yb := Lib.hid (Vb.out.on hs)
  clear Vb
  have Vb := Yb
  clear Yb
  have Yf := Lib.hid (Vf.out.on hs)
  clear Vf
  have Vf := Yf
  clear Yf
  have Yg := Lib.hid (Vg.out.on hs)
  clear Vg
  have Vg := Yg
  clear Yg
  have Yh := Lib.hid (Vh.out.on hs)
  clear Vh
  have Vh := Yh
  clear Yh
  have Yx := Lib.hid (Vx.out.on hs)
  clear Vx
  have Vx := Yx
  clear Yx
  have Yy := Lib.hid (Vy.out.on hs)
  clear Vy
  have Vy := Yy
  clear Yy
  have Vz := Lib.hid (Kept.mk Rz Iz)
  clear Rz Iz
  have HB3 := Lib.hid (below_on HB2.out hs)
  clear hs
  clear HB2
  clear c0a c1a c0b c1b
  clear Va Vb
  have HA := Lib.hid (show w.heap.size + 4 < w1.heap.size ∧ w1.heap.size < w2.heap.size ∧ w2.heap.size < w3.heap.size from ⟨Nat.lt_of_lt_of_le HW4.out HSZ1.out, Nat.lt_of_lt_of_le HLT1.out HSZ2.out, Nat.lt_of_lt_of_le HLT2.out HSZ3.out⟩)
  go_wp2_with fail
  rw [← hZ3]
  clear hZ3
  have c0x := Vx.out.c0
  have c1x := Vx.out.c1
  have c0y := Vy.out.c0
  have c1y := Vy.out.c1
  have c0z := Vz.out.c0
  have c1z := Vz.out.c1
  have Rf := Vf.out.row
  have ff0 := frozen_of_row _ _ 0 _ _ Rf
  have ff1 := frozen_of_row _ _ 1 _ _ Rf
  have df0 := Vf.out.c0
  have df1 := Vf.out.c1
  have Rg := Vg.out.row
  have fg0 := frozen_of_row _ _ 0 _ _ Rg
  have fg1 := frozen_of_row _ _ 1 _ _ Rg
  have dg0 := Vg.out.c0
  have dg1 := Vg.out.c1
  have Rh := Vh.out.row
  have fh0 := frozen_of_row _ _ 0 _ _ Rh
  have fh1 := frozen_of_row _ _ 1 _ _ Rh
  have dh0 := Vh.out.c0
  have dh1 := Vh.out.c1
  have hA := HA.out
  have nxf : ¬ w1.heap.size = w.heap.size + 2 := by omega
  have nxg : ¬ w1.heap.size = w.heap.size + 3 := by omega
  have nxh : ¬ w1.heap.size = w.heap.size + 4 := by omega
  have nyf : ¬ w2.heap.size = w.heap.size + 2 := by omega
  have nyg : ¬ w2.heap.size = w.heap.size + 3 := by omega
  have nyh : ¬ w2.heap.size = w.heap.size + 4 := by omega
  have nzf : ¬ w3.heap.size = w.heap.size + 2 := by omega
  have nzg : ¬ w3.heap.size = w.heap.size + 3 := by omega
  have nzh : ¬ w3.heap.size = w.heap.size + 4 := by omega
  have nfx : ¬ w.heap.size + 2 = w1.heap.size := by omega
  have nfy : ¬ w.heap.size + 2 = w2.heap.size := by omega
  have nfz : ¬ w.heap.size + 2 = w3.heap.size := by omega
  have ngx : ¬ w.heap.size + 3 = w1.heap.size := by omega
  have ngy : ¬ w.heap.size + 3 = w2.heap.size := by omega
  have ngz : ¬ w.heap.size + 3 = w3.heap.size := by omega
  have nhx : ¬ w.heap.size + 4 = w1.heap.size := by omega
  have nhy : ¬ w.heap.size + 4 = w2.heap.size := by omega
  have nhz : ¬ w.heap.size + 4 = w3.heap.size := by omega
  have nfg : ¬ w.heap.size + 2 = w.heap.size + 3 := by omega
  have nfh : ¬ w.heap.size + 2 = w.heap.size + 4 := by omega
  have ngf : ¬ w.heap.size + 3 = w.heap.size + 2 := by omega
  have ngh : ¬ w.heap.size + 3 = w.heap.size + 4 := by omega
  have nhf : ¬ w.heap.size + 4 = w.heap.size + 2 := by omega
  have nhg : ¬ w.heap.size + 4 = w.heap.size + 3 := by omega
  go_region_held3 (fun w' => w'.cell? ⟨w1.heap.size, 0, none⟩ = some (.bool sx) ∧ w'.cell? ⟨w1.heap.size, 1, none⟩ = some (.slice px lx cx) ∧ w'.cell? ⟨w2.heap.size, 0, none⟩ = some (.bool sy) ∧ w'.cell? ⟨w2.heap.size, 1, none⟩ = some (.slice py ly cy) ∧ w'.cell? ⟨w3.heap.size, 0, none⟩ = some (.bool sz) ∧ w'.cell? ⟨w3.heap.size, 1, none⟩ = some (.slice pz lz cz))
    (first
      | go_keep
      | assumption)
    (fail)
  obtain ⟨Y, hY⟩ : ∃ Y, Y = ((((((Z3.setCell ⟨w.heap.size + 2, 0, none⟩ (.bool sx)).setCell ⟨w.heap.size + 2, 1, none⟩ (.slice px lx cx)).setCell ⟨w.heap.size + 3, 0, none⟩ (.bool sy)).setCell ⟨w.heap.size + 3, 1, none⟩ (.slice py ly cy)).setCell ⟨w.heap.size + 4, 0, none⟩ (.bool sz)).setCell ⟨w.heap.size + 4, 1, none⟩ (.slice pz lz cz)) := ⟨_, rfl⟩
  have r1 : Y.heap[w.heap.size + 2]? = some (.cells #[.bool sx, .slice px lx cx] 25 (0, 0)) := by rw [hY]; exact sl_row2 _ _ nfh (sl_row2 _ _ nfg (ibox_set _ _ Rf))
  have r2 : Y.heap[w.heap.size + 3]? = some (.cells #[.bool sy, .slice py ly cy] 25 (0, 0)) := by rw [hY]; exact sl_row2 _ _ ngh (ibox_set _ _ (sl_row2 _ _ ngf Rg))
  have r3 : Y.heap[w.heap.size + 4]? = some (.cells #[.bool sz, .slice pz lz cz] 25 (0, 0)) := by rw [hY]; exact ibox_set _ _ (sl_row2 _ _ nhg (sl_row2 _ _ nhf Rh))
  have mv : ∀ (v : Value) (n : Int), IsI Z3 v n → IsI Y v n := fun v n h => by
    rw [hY]; exact sl_set2 _ _ (sl_set2 _ _ (sl_set2 _ _ h Rf) (sl_row2 _ _ ngf Rg)) (sl_row2 _ _ nhg (sl_row2 _ _ nhf Rh))
  have hbY : Below w.heap.size w Y := by rw [hY]; exact below_ibox (below_ibox (below_ibox HB3.out (g := w.heap.size + 2) (by omega) _ _) (g := w.heap.size + 3) (by omega) _ _) (g := w.heap.size + 4) (by omega) _ _
  have HY := Lib.hid (show Y.heap[w.heap.size + 2]? = _ ∧ Y.heap[w.heap.size + 3]? = _ ∧ Y.heap[w.heap.size + 4]? = _ ∧ IsI Y (.agg #[.bool sx, .slice px lx cx]) (opI 1 a b) ∧ IsI Y (.agg #[.bool sy, .slice py ly cy]) (opI 2 a b) ∧ IsI Y (.agg #[.bool sz, .slice pz lz cz]) (opI 3 a b) ∧ Below w.heap.size w Y from ⟨r1, r2, r3, mv _ _ Vx.out.num, mv _ _ Vy.out.num, mv _ _ Vz.out.num, hbY⟩)
  rw [show w.heap.size + 1 + 1 = w.heap.size + 2 from rfl, show w.heap.size + 2 + 1 = w.heap.size + 3 from rfl, show w.heap.size + 3 + 1 = w.heap.size + 4 from rfl, ← hY]
  clear hY r1 r2 r3 mv hbY
  go_wp2_with fail
  refine bodyPost_ret (v := .tuple #[.agg #[.bool sx, .slice px lx cx], .agg #[.bool sy, .slice py ly cy], .agg #[.bool sz, .slice pz lz cz]]) (results_int3 Tryz.results13 _ _ (w.heap.size + 2) (w.heap.size + 3) (w.heap.size + 4) _ _ _ rfl rfl rfl (load_int (w := World.drew _) HY.out.1) (load_int (w := World.drew _) HY.out.2.1) (load_int (w := World.drew _) HY.out.2.2.1)) rfl ?_
  exact ⟨⟨_, _, _, _, _, _, _, _, _, _, _, _, rfl, HY.out.2.2.2.1.below (below_drewN Y 1 _), HY.out.2.2.2.2.1.below (below_drewN Y 1 _), HY.out.2.2.2.2.2.1.below (below_drewN Y 1 _)⟩, HY.out.2.2.2.2.2.2.trans (below_drewN Y 1 _)⟩
end Go.Proofs.YtkbghamkalidcaaGreat
