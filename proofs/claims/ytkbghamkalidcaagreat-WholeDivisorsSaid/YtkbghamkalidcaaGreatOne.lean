/-
  What one does. What two does. Conditions: those that each theorem names.
-/
import Derived.Test.YtkbghamkalidcaaGreatGuard
import Derived.BigRegion
namespace Go.Proofs.YtkbghamkalidcaaGreat
open Go.RowKit

theorem Own.setCell {base : Nat} {w : World} {v : Value} {xs : List Nat} (h : Own base w v xs) {a : Addr} (ha : a.block < base) (u : Value) : Own base (w.setCell a u) v xs := by
  rcases h with h | ⟨g, L, h1, h2, h3, h4⟩
  · exact .inl h
  · refine .inr ⟨g, L, h1, h2, ?_, h4⟩
    unfold Row
    rw [Below.heap_setCell _ _ _ _ (by omega)]
    exact h3

theorem Own.caught {base : Nat} {w w' : World} {v : Value} {xs : List Nat} {P Q : Nat} {k a : Int} (h : Own base w v xs) (hc : Caught w w' P Q k a) (hP : P < base) (hQ : Q < base) : Own base w' v xs := by
  rcases h with h | ⟨g, L, h1, h2, h3, h4⟩
  · exact .inl h
  · exact .inr ⟨g, L, h1, h2, (hc.same g h3.lt (by omega) (by omega)).trans h3, h4⟩
theorem below_caught {B : Nat} {w w1 w2 : World} {P Q : Nat} {k a : Int} (h : Below B w w1) (hc : Caught w1 w2 P Q k a) (hP : B ≤ P) (hQ : B ≤ Q) (hB : B ≤ w1.heap.size) : Below B w w2 :=
  ⟨hc.os.trans h.os, hc.tape.trans h.tape, hc.output.trans h.output, Nat.le_trans h.size hc.size, fun j hj => (hc.same j (by omega) (by omega) (by omega)).trans (h.block j hj)⟩

/-- what a piece of work makes: a number, or one of the package's errors (k is not 0 then) -/
def NatDoes (G : FuncId) (caps : Array Value) (w : World) (k : Int) (m : Nat) : Prop := ∀ W, Below w.heap.size w W → Calls Tryz.prog G caps W fun e w' => Below W.heap.size W w' ∧
  ((k = 0 ∧ ∃ v, e = .returned v ∧ IsN w' v m) ∨ (k ≠ 0 ∧ e = .panicked [{ v := .iface 177 (.agg #[.int .i64 k, .int .i64 0]), recovered := false }]))
/-- the error that a call ends in -/
def codeOf (k : Int) (m : Nat) : Int := if k ≠ 0 then k else if (Nl.limbs m).length ≤ 1024 then 0 else 2
/-- the results of a call -/
def NatOut (w w' : World) (e : Ending) (c : Int) (m : Nat) : Prop := (∃ v, e = .returned (.tuple #[v, .int .i64 c]) ∧ (c = 0 → Own w.heap.size w' v (Nl.limbs m)) ∧ (c ≠ 0 → v = .slice none 0 0)) ∧ Below w.heap.size w w'

set_option maxHeartbeats 1000000 in
/-- the work inside a guarded call -/
theorem one1_any (G : FuncId) (caps : Array Value) (w : World) (k : Int) (m K N : Nat) (hK : w.heap[K]? = some (.cells #[.func (.func G) #[] caps] 188 (0, 0))) (hN : w.heap[N]? = some (.cells #[.slice none 0 0] 23 (0, 0)))
    (h : NatDoes G caps w k m) (hF : ∀ args w, (callFunc G args).run Tryz.prog w = .ok (.enter G args) w) :
    Calls Tryz.prog 221 #[.pointer (some ⟨K, 0, none⟩), .pointer (some ⟨N, 0, none⟩)] w fun e w' => (∀ j, j < w.heap.size → j ≠ N → w'.heap[j]? = w.heap[j]?) ∧ w.grownBy w' (some N) ∧
      ((codeOf k m = 0 ∧ e = .returned (.tuple #[]) ∧ ∃ v, w'.heap[N]? = some (.cells #[v] 23 (0, 0)) ∧ Own w.heap.size w' v (Nl.limbs m)) ∨
        (codeOf k m ≠ 0 ∧ e = .panicked [{ v := .iface 177 (.agg #[.int .i64 (codeOf k m), .int .i64 0]), recovered := false }] ∧ w'.heap[N]? = some (.cells #[.slice none 0 0] 23 (0, 0)))) := by
  have hk := cell_of_one hK
  have hw := Lib.hid (h w (Below.refl _ _))
  have HN := Lib.hid hN
  have hNl := lt_of_block hN
  clear h hN hK
  go_enter Tryz.func221, Tryz.ntmps221
  go_wp2_with fail
  refine hw.out.mono ?_
  rintro e w1 ⟨hb1, ⟨rfl, v, rfl, hv⟩ | ⟨hk0, rfl⟩⟩
  · have HB1 := Lib.hid hb1
    have HV := Lib.hid hv
    have hN1 := Lib.hid ((hb1.block N hNl).trans HN.out)
    clear hb1 hv
    by_cases hl : (Nl.limbs m).length ≤ 1024
    · have hc0 : codeOf 0 m = 0 := by simp [codeOf, hl]
      have HC := Lib.hid hc0
      clear hc0
      go_wp2_with fail
      refine (kept_yes v m w1 HV.out hl).mono ?_
      rintro e w2 ⟨⟨u, rfl, hu⟩, hb2⟩
      obtain ⟨ua, uc, rfl, -⟩ := hu.at.form
      have hN2 : w2.heap[N]? = some (.cells #[.slice none 0 0] 23 (0, 0)) := (hb2.block N (Nat.lt_of_lt_of_le hNl HB1.out.size)).trans hN1.out
      have hc2 := cell_of_one hN2
      have hf2 := free_of_one hN2
      have HB2 := Lib.hid (HB1.out.trans (hb2.mono HB1.out.size))
      have HU := Lib.hid (hu.mono HB1.out.size)
      have HN2 := Lib.hid hN2
      clear hb2 hu hN2
      go_wp2_with fail
      go_end0
      have hnb : ∀ j, j < w.heap.size → j ≠ N → (w2.setCell ⟨N, 0, none⟩ (.slice ua (Nl.limbs m).length uc)).heap[j]? = w.heap[j]? := fun j hj hne => (Below.heap_setCell w2 ⟨N, 0, none⟩ _ j hne).trans (HB2.out.block j hj)
      refine ⟨hnb, ?_, (.inl ⟨HC.out, rfl, _, one_setCell HN2.out, HU.out.setCell hNl _⟩)⟩
      exact grown_trans (grown_of_below HB2.out) (Only.setCell N 0 _ w2)
    · have hc2 : codeOf 0 m = 2 := by simp [codeOf, hl]
      have HC := Lib.hid hc2
      clear hc2
      go_wp2_with fail
      refine (kept_no v m w1 HV.out (by omega)).mono ?_
      rintro e w2 ⟨rfl, rfl⟩
      refine ⟨rfl, fun j hj _ => HB1.out.block j hj, grown_of_below HB1.out, .inr ⟨?_, ?_, hN1.out⟩⟩
      · rw [HC.out]; decide
      · rw [HC.out]
  · have hN1 := (hb1.block N hNl).trans HN.out
    have hc : codeOf k m = k := by simp [codeOf, hk0]
    refine ⟨rfl, fun j hj _ => hb1.block j hj, grown_of_below hb1, .inr ⟨?_, ?_, hN1⟩⟩
    · rw [hc]; exact hk0
    · rw [hc]

theorem NatDoes.mono {G : FuncId} {caps : Array Value} {w W : World} {k : Int} {m : Nat} (h : NatDoes G caps w k m) (hb : Below w.heap.size w W) : NatDoes G caps W k m :=
  fun V hV => h V (hb.trans (hV.mono hb.size))
/-- what holds when the guarded call is over -/
def OneR (w W0 : World) (vs : List (Value × List Nat)) (k : Int) (m : Nat) (N : Nat) (c : Int) (w1 : World) : Prop :=
  (((∀ p ∈ vs, validB p.2 = true) ∧ c = codeOf k m) ∨ ((∃ p ∈ vs, validB p.2 = false) ∧ c = 1)) ∧ Below w.heap.size w w1 ∧ W0.heap.size + 4 ≤ w1.heap.size ∧
    ∃ a n cp, w1.heap[N]? = some (.cells #[.slice a n cp] 23 (0, 0)) ∧ (c = 0 → Own (W0.heap.size + 4) w1 (.slice a n cp) (Nl.limbs m)) ∧ (c ≠ 0 → Value.slice a n cp = .slice none 0 0)

theorem slice_of_own {base : Nat} {w : World} {v : Value} {xs : List Nat} (h : Own base w v xs) : ∃ a n c, v = .slice a n c := by
  obtain ⟨a, c, h1, -⟩ := h.at.form
  exact ⟨a, _, c, h1⟩

set_option maxHeartbeats 1000000 in
theorem one_any (G : FuncId) (caps : Array Value) (w : World) (k : Int) (m : Nat) (a : Option Addr) (b : Nat) (vs : List (Value × List Nat)) (hvl : vs.length ≤ 100) (ha : 0 < vs.length → a = some ⟨b, 0, none⟩ ∧ b < w.heap.size) (hg : Given w b vs)
    (h : (∀ p ∈ vs, validB p.2 = true) → NatDoes G caps w k m) (hF : ∀ args w, (callFunc G args).run Tryz.prog w = .ok (.enter G args) w) :
    Calls Tryz.prog 169 #[.func (.func G) #[] caps, .slice a vs.length vs.length] w fun e w' => (∃ c, (((∀ p ∈ vs, validB p.2 = true) ∧ c = codeOf k m) ∨ ((∃ p ∈ vs, validB p.2 = false) ∧ c = 1)) ∧ NatOut w w' e c m) := by
  have hmf : ∀ (fn : Fn) (first cap : Array Value) (w : World), (Instr.makeFunc fn first cap).run Tryz.prog w = .ok (.func fn first cap) w := fun _ _ _ _ => rfl
  have H := Lib.hid h
  have HG := Lib.hid hg
  have HA := Lib.hid ha
  clear h hg ha
  go_enter Tryz.func169, Tryz.ntmps169
  go_wp2_with fail
  obtain ⟨W0, hW0⟩ : ∃ W0, W0 = (w.alloc (.cells #[.func (.func G) #[] caps] 188)).alloc (.cells #[.slice none 0 0] 23) := ⟨_, rfl⟩
  rw [← hW0]
  have hb0 : Below w.heap.size w W0 := by rw [hW0]; exact ((Below.refl _ _).alloc (Nat.le_refl _) _).alloc (by simp) _
  have hs0 : W0.heap.size = w.heap.size + 2 := by rw [hW0]; simp
  have hK : W0.heap[w.heap.size]? = some (.cells #[.func (.func G) #[] caps] 188 (0, 0)) := by rw [hW0]; exact heap_alloc2_old w _ _
  have hN : W0.heap[w.heap.size + 1]? = some (.cells #[.slice none 0 0] 23 (0, 0)) := by rw [hW0]; exact heap_alloc2_new w _ _
  have HB0 := Lib.hid hb0
  have HS0 := Lib.hid hs0
  have HK := Lib.hid hK
  have HN := Lib.hid hN
  clear hW0 hb0 hs0 hK hN
  refine (guarded_any 221 _ W0 a b vs (OneR w W0 vs k m (w.heap.size + 1)) hvl (fun h0 => ⟨(HA.out h0).1, Nat.lt_of_lt_of_le (HA.out h0).2 HB0.out.size⟩) ?_ ?_ ?_ (fun _ _ => by kernel_rfl)).mono ?_
  · intro i hi
    obtain ⟨g1, g2⟩ := HG.out i hi
    exact ⟨(HB0.out.cell (p := ⟨b, i, none⟩) (HA.out (by omega)).2).trans g1, g2.below HB0.out⟩
  · intro hall W hbW hsW
    have s0 := HS0.out
    have hKW := (hbW.block w.heap.size (by omega)).trans HK.out
    have hNW := (hbW.block (w.heap.size + 1) (by omega)).trans HN.out
    refine (one1_any G caps W k m w.heap.size (w.heap.size + 1) hKW hNW ((H.out hall).mono (HB0.out.trans (hbW.mono (by omega)))) hF).mono ?_
    rintro e w1 ⟨hj, hgr, hr⟩
    have hbw1 : Below w.heap.size w w1 := by
      refine HB0.out.trans (Below.trans (hbW.mono (by omega)) ?_)
      exact ⟨hgr.os, hgr.tape, hgr.output, hgr.size, fun q hq => hj q (by omega) (by omega)⟩
    have hsz : W0.heap.size + 4 ≤ w1.heap.size := by have := hgr.size; omega
    refine ⟨fun j _ h2 => hj j h2 (by omega), ?_⟩
    rcases hr with ⟨hc, rfl, v, h1, h2⟩ | ⟨hc, rfl, h1⟩
    · left
      obtain ⟨va, vn, vc, rfl⟩ := slice_of_own h2
      exact ⟨rfl, .inl ⟨hall, hc.symm⟩, hbw1, hsz, va, vn, vc, h1, fun _ => by rw [hsW] at h2; exact h2, fun h => absurd rfl h⟩
    · right
      exact ⟨_, rfl, .inl ⟨hall, rfl⟩, hbw1, hsz, none, 0, 0, h1, fun h => absurd h hc, fun _ => rfl⟩
  · intro W hbW hsW hex
    have s0 := HS0.out
    exact ⟨.inr ⟨hex, rfl⟩, HB0.out.trans (hbW.mono (by omega)), by omega, none, 0, 0, (hbW.block (w.heap.size + 1) (by omega)).trans HN.out, fun h => absurd h (by decide), fun _ => rfl⟩
  rintro e w3 ⟨c, w1, rfl, ⟨hc, hb1, hsz, va, vn, vc, hN1, hown, hnil⟩, hcau⟩
  have s0 := HS0.out
  have hN3 : w3.heap[w.heap.size + 1]? = some (.cells #[.slice va vn vc] 23 (0, 0)) := (hcau.same _ (by omega) (by omega) (by omega)).trans hN1
  have hb3 : Below w.heap.size w w3 := below_caught hb1 hcau (by omega) (by omega) (by omega)
  have ho3 : c = 0 → Own (W0.heap.size + 4) w3 (.slice va vn vc) (Nl.limbs m) := fun h => (hown h).caught hcau (by omega) (by omega)
  have hc3 := cell_of_one hN3
  have hf3 := free_of_one hN3
  have HR := Lib.hid (And.intro hc (And.intro hb3 (And.intro ho3 (And.intro hnil hN3))))
  clear hcau hN3 hb3 ho3 hc hb1 hsz hN1 hown hnil s0
  go_wp2_with fail
  have hN4 := one_setCell (u := .slice va vn vc) HR.out.2.2.2.2
  have hcell := cell_of_one hN4
  refine bodyPost_ret (v := .tuple #[.slice va vn vc, .int .i64 c]) (by simp [results, Tryz.results169, go_sem, hcell]) rfl ?_
  refine ⟨c, HR.out.1, ⟨_, rfl, fun h => ?_, HR.out.2.2.2.1⟩, HR.out.2.1.setCell (by show w.heap.size ≤ w.heap.size + 1; omega) _⟩
  have s0 := HS0.out
  exact ((HR.out.2.2.1 h).setCell (show w.heap.size + 1 < W0.heap.size + 4 by omega) _).mono (by omega)


/-- what a piece of work makes: two numbers that fit, or one of the package's errors -/
def TwoDoes (G : FuncId) (caps : Array Value) (w : World) (k : Int) (q r : Nat) : Prop := ∀ W, Below w.heap.size w W → Calls Tryz.prog G caps W fun e w' => Below W.heap.size W w' ∧
  ((k = 0 ∧ ∃ u v, e = .returned (.tuple #[u, v]) ∧ IsN w' u q ∧ IsN w' v r ∧ (Nl.limbs q).length ≤ 1024 ∧ (Nl.limbs r).length ≤ 1024) ∨ (k ≠ 0 ∧ e = .panicked [{ v := .iface 177 (.agg #[.int .i64 k, .int .i64 0]), recovered := false }]))
def TwoOut (w w' : World) (e : Ending) (c : Int) (q r : Nat) : Prop := (∃ u v, e = .returned (.tuple #[u, v, .int .i64 c]) ∧ (c = 0 → Own w.heap.size w' u (Nl.limbs q) ∧ Own w.heap.size w' v (Nl.limbs r)) ∧ (c ≠ 0 → u = .slice none 0 0 ∧ v = .slice none 0 0)) ∧ Below w.heap.size w w'

def Two1R (w w' : World) (e : Ending) (k : Int) (q r N M : Nat) : Prop :=
  (k = 0 ∧ e = .returned (.tuple #[]) ∧ ∃ u v, w'.heap[N]? = some (.cells #[u] 23 (0, 0)) ∧ w'.heap[M]? = some (.cells #[v] 23 (0, 0)) ∧ Own w.heap.size w' u (Nl.limbs q) ∧ Own w.heap.size w' v (Nl.limbs r)) ∨
        (k ≠ 0 ∧ e = .panicked [{ v := .iface 177 (.agg #[.int .i64 k, .int .i64 0]), recovered := false }] ∧ w'.heap[N]? = some (.cells #[.slice none 0 0] 23 (0, 0)) ∧ w'.heap[M]? = some (.cells #[.slice none 0 0] 23 (0, 0)))

set_option maxHeartbeats 1000000 in
theorem two1_any (G : FuncId) (caps : Array Value) (w : World) (k : Int) (q r K N M : Nat) (hK : w.heap[K]? = some (.cells #[.func (.func G) #[] caps] 201 (0, 0))) (hN : w.heap[N]? = some (.cells #[.slice none 0 0] 23 (0, 0))) (hM : w.heap[M]? = some (.cells #[.slice none 0 0] 23 (0, 0)))
    (hNM : N ≠ M) (h : TwoDoes G caps w k q r) (hF : ∀ args w, (callFunc G args).run Tryz.prog w = .ok (.enter G args) w) :
    Calls Tryz.prog 225 #[.pointer (some ⟨K, 0, none⟩), .pointer (some ⟨N, 0, none⟩), .pointer (some ⟨M, 0, none⟩)] w fun e w' => (w.heap.size ≤ w'.heap.size ∧ w'.os = w.os ∧ w'.tape = w.tape ∧ w'.output = w.output ∧ ∀ j, j < w.heap.size → j ≠ N → j ≠ M → w'.heap[j]? = w.heap[j]?) ∧
      Two1R w w' e k q r N M := by
  have hk := cell_of_one hK
  have hw := Lib.hid (h w (Below.refl _ _))
  have HN := Lib.hid hN
  have HM := Lib.hid hM
  have hNl := lt_of_block hN
  have hMl := lt_of_block hM
  clear h hN hK hM
  go_enter Tryz.func225, Tryz.ntmps225
  go_wp2_with fail
  refine hw.out.mono ?_
  rintro e w1 ⟨hb1, ⟨rfl, u, v, rfl, hu, hv, hlq, hlr⟩ | ⟨hk0, rfl⟩⟩
  · have HB1 := Lib.hid hb1
    have HU := Lib.hid hu
    have HV := Lib.hid hv
    clear hb1 hu hv
    go_wp2_with fail
    refine (kept_yes u q w1 HU.out hlq).mono ?_
    rintro e w2 ⟨⟨u2, rfl, hu2⟩, hb2⟩
    obtain ⟨ua, uc, rfl, -⟩ := hu2.at.form
    have HU2 := Lib.hid hu2
    have HB2 := Lib.hid hb2
    clear hu2 hb2
    go_wp2_with fail
    refine (kept_yes v r w2 (HV.out.below HB2.out) hlr).mono ?_
    rintro e w3 ⟨⟨v2, rfl, hv2⟩, hb3⟩
    obtain ⟨vb, vc, rfl, -⟩ := hv2.at.form
    have HB13 := Lib.hid (show Below w.heap.size w w3 from HB1.out.trans ((HB2.out.trans (hb3.mono HB2.out.size)).mono HB1.out.size))
    have HU3 := Lib.hid ((HU2.out.below hb3).mono HB1.out.size)
    have HV3 := Lib.hid (hv2.mono (Nat.le_trans HB1.out.size HB2.out.size))
    have hN3 := (HB13.out.block N hNl).trans HN.out
    have hM3 := (HB13.out.block M hMl).trans HM.out
    have hcN := cell_of_one hN3
    have hfN := free_of_one hN3
    have hcM := cell_of_one hM3
    have hfM := free_of_one hM3
    have HN3 := Lib.hid hN3
    have HM3 := Lib.hid hM3
    clear hv2 hb3 hN3 hM3
    have hne2 : M ≠ N := Ne.symm hNM
    go_wp2_with fail
    go_end0
    have n1 : ((w3.setCell ⟨N, 0, none⟩ (.slice ua (Nl.limbs q).length uc)).setCell ⟨M, 0, none⟩ (.slice vb (Nl.limbs r).length vc)).heap[N]? = some (.cells #[.slice ua (Nl.limbs q).length uc] 23 (0, 0)) :=
      (Below.heap_setCell _ ⟨M, 0, none⟩ _ N hNM).trans (one_setCell HN3.out)
    have n2 : ((w3.setCell ⟨N, 0, none⟩ (.slice ua (Nl.limbs q).length uc)).setCell ⟨M, 0, none⟩ (.slice vb (Nl.limbs r).length vc)).heap[M]? = some (.cells #[.slice vb (Nl.limbs r).length vc] 23 (0, 0)) :=
      one_setCell ((Below.heap_setCell _ ⟨N, 0, none⟩ _ M hne2).trans HM3.out)
    refine ⟨⟨by have := HB13.out.size; simpa using this, HB13.out.os, HB13.out.tape, HB13.out.output, fun j hj h1 h2 => ?_⟩, .inl ⟨rfl, rfl, _, _, n1, n2, ?_, ?_⟩⟩
    · rw [Below.heap_setCell _ ⟨M, 0, none⟩ _ j h2, Below.heap_setCell _ ⟨N, 0, none⟩ _ j h1]; exact HB13.out.block j hj
    · exact (HU3.out.setCell (show N < w.heap.size from hNl) _).setCell (show M < w.heap.size from hMl) _
    · exact (HV3.out.setCell (show N < w.heap.size from hNl) _).setCell (show M < w.heap.size from hMl) _
  · exact ⟨rfl, ⟨hb1.size, hb1.os, hb1.tape, hb1.output, fun j hj _ _ => hb1.block j hj⟩, .inr ⟨hk0, rfl, (hb1.block N hNl).trans HN.out, (hb1.block M hMl).trans HM.out⟩⟩

def TwoR (w W0 : World) (vs : List (Value × List Nat)) (k : Int) (q r : Nat) (N M : Nat) (c : Int) (w1 : World) : Prop :=
  (((∀ p ∈ vs, validB p.2 = true) ∧ c = k) ∨ ((∃ p ∈ vs, validB p.2 = false) ∧ c = 1)) ∧ Below w.heap.size w w1 ∧ W0.heap.size + 4 ≤ w1.heap.size ∧
    ∃ a n cp a' n' cp', w1.heap[N]? = some (.cells #[.slice a n cp] 23 (0, 0)) ∧ w1.heap[M]? = some (.cells #[.slice a' n' cp'] 23 (0, 0)) ∧
      (c = 0 → Own (W0.heap.size + 4) w1 (.slice a n cp) (Nl.limbs q) ∧ Own (W0.heap.size + 4) w1 (.slice a' n' cp') (Nl.limbs r)) ∧ (c ≠ 0 → Value.slice a n cp = .slice none 0 0 ∧ Value.slice a' n' cp' = .slice none 0 0)
theorem TwoDoes.mono {G : FuncId} {caps : Array Value} {w W : World} {k : Int} {q r : Nat} (h : TwoDoes G caps w k q r) (hb : Below w.heap.size w W) : TwoDoes G caps W k q r :=
  fun V hV => h V (hb.trans (hV.mono hb.size))

set_option maxHeartbeats 1000000 in
theorem two_any (G : FuncId) (caps : Array Value) (w : World) (k : Int) (q r : Nat) (a : Option Addr) (b : Nat) (vs : List (Value × List Nat)) (hvl : vs.length ≤ 100) (ha : 0 < vs.length → a = some ⟨b, 0, none⟩ ∧ b < w.heap.size) (hg : Given w b vs)
    (h : (∀ p ∈ vs, validB p.2 = true) → TwoDoes G caps w k q r) (hF : ∀ args w, (callFunc G args).run Tryz.prog w = .ok (.enter G args) w) :
    Calls Tryz.prog 184 #[.func (.func G) #[] caps, .slice a vs.length vs.length] w fun e w' => (∃ c, (((∀ p ∈ vs, validB p.2 = true) ∧ c = k) ∨ ((∃ p ∈ vs, validB p.2 = false) ∧ c = 1)) ∧ TwoOut w w' e c q r) := by
  have hmf : ∀ (fn : Fn) (first cap : Array Value) (w : World), (Instr.makeFunc fn first cap).run Tryz.prog w = .ok (.func fn first cap) w := fun _ _ _ _ => rfl
  have H := Lib.hid h
  have HG := Lib.hid hg
  have HA := Lib.hid ha
  clear h hg ha
  go_enter Tryz.func184, Tryz.ntmps184
  go_wp2_with fail
  obtain ⟨W0, hW0⟩ : ∃ W0, W0 = ((w.alloc (.cells #[.func (.func G) #[] caps] 201)).alloc (.cells #[.slice none 0 0] 23)).alloc (.cells #[.slice none 0 0] 23) := ⟨_, rfl⟩
  rw [← hW0]
  have hb0 : Below w.heap.size w W0 := by rw [hW0]; exact (((Below.refl _ _).alloc (Nat.le_refl _) _).alloc (by simp) _).alloc (by simp; omega) _
  have hs0 : W0.heap.size = w.heap.size + 3 := by rw [hW0]; simp
  have hK : W0.heap[w.heap.size]? = some (.cells #[.func (.func G) #[] caps] 201 (0, 0)) := by
    rw [hW0]; exact (Below.heap_alloc _ _ _ (by simp; omega)).trans (heap_alloc2_old w _ _)
  have hN : W0.heap[w.heap.size + 1]? = some (.cells #[.slice none 0 0] 23 (0, 0)) := by
    rw [hW0]; exact (Below.heap_alloc _ _ _ (by simp)).trans (heap_alloc2_new w _ _)
  have hM : W0.heap[w.heap.size + 2]? = some (.cells #[.slice none 0 0] 23 (0, 0)) := by
    rw [hW0]
    have := heap_alloc_new ((w.alloc (.cells #[.func (.func G) #[] caps] 201)).alloc (.cells #[.slice none 0 0] 23)) (.cells #[.slice none 0 0] 23)
    simpa using this
  have HB0 := Lib.hid hb0
  have HS0 := Lib.hid hs0
  have HK := Lib.hid hK
  have HN := Lib.hid hN
  have HM := Lib.hid hM
  clear hW0 hb0 hs0 hK hN hM
  refine (guarded_any 225 _ W0 a b vs (TwoR w W0 vs k q r (w.heap.size + 1) (w.heap.size + 2)) hvl (fun h0 => ⟨(HA.out h0).1, Nat.lt_of_lt_of_le (HA.out h0).2 HB0.out.size⟩) ?_ ?_ ?_ (fun _ _ => by kernel_rfl)).mono ?_
  · intro i hi
    obtain ⟨g1, g2⟩ := HG.out i hi
    exact ⟨(HB0.out.cell (p := ⟨b, i, none⟩) (HA.out (by omega)).2).trans g1, g2.below HB0.out⟩
  · intro hall W hbW hsW
    have s0 := HS0.out
    have hKW := (hbW.block w.heap.size (by omega)).trans HK.out
    have hNW := (hbW.block (w.heap.size + 1) (by omega)).trans HN.out
    have hMW := (hbW.block (w.heap.size + 2) (by omega)).trans HM.out
    refine (two1_any G caps W k q r w.heap.size (w.heap.size + 1) (w.heap.size + 2) hKW hNW hMW (by omega) ((H.out hall).mono (HB0.out.trans (hbW.mono (by omega)))) hF).mono ?_
    rintro e w1 ⟨⟨hsz1, h1, h2, h3, hj⟩, hr⟩
    have hbw1 : Below w.heap.size w w1 := by
      refine HB0.out.trans (Below.trans (hbW.mono (by omega)) ?_)
      exact ⟨h1, h2, h3, hsz1, fun q hq => hj q (by omega) (by omega) (by omega)⟩
    have hsz : W0.heap.size + 4 ≤ w1.heap.size := by omega
    refine ⟨fun j _ h2 => hj j h2 (by omega) (by omega), ?_⟩
    rcases hr with ⟨rfl, rfl, u, v, n1, n2, o1, o2⟩ | ⟨hc, rfl, n1, n2⟩
    · left
      obtain ⟨va, vn, vc, rfl⟩ := slice_of_own o1
      obtain ⟨va', vn', vc', rfl⟩ := slice_of_own o2
      rw [hsW] at o1 o2
      exact ⟨rfl, .inl ⟨hall, rfl⟩, hbw1, hsz, va, vn, vc, va', vn', vc', n1, n2, fun _ => ⟨o1, o2⟩, fun h => absurd rfl h⟩
    · right
      exact ⟨_, rfl, .inl ⟨hall, rfl⟩, hbw1, hsz, none, 0, 0, none, 0, 0, n1, n2, fun h => absurd h hc, fun _ => ⟨rfl, rfl⟩⟩
  · intro W hbW hsW hex
    have s0 := HS0.out
    exact ⟨.inr ⟨hex, rfl⟩, HB0.out.trans (hbW.mono (by omega)), by omega, none, 0, 0, none, 0, 0, (hbW.block (w.heap.size + 1) (by omega)).trans HN.out, (hbW.block (w.heap.size + 2) (by omega)).trans HM.out, fun h => absurd h (by decide), fun _ => ⟨rfl, rfl⟩⟩
  rintro e w3 ⟨c, w1, rfl, ⟨hc, hb1, hsz, va, vn, vc, va', vn', vc', hN1, hM1, hown, hnil⟩, hcau⟩
  have s0 := HS0.out
  have hN3 : w3.heap[w.heap.size + 1]? = some (.cells #[.slice va vn vc] 23 (0, 0)) := (hcau.same _ (by omega) (by omega) (by omega)).trans hN1
  have hM3 : w3.heap[w.heap.size + 2]? = some (.cells #[.slice va' vn' vc'] 23 (0, 0)) := (hcau.same _ (by omega) (by omega) (by omega)).trans hM1
  have hb3 : Below w.heap.size w w3 := below_caught hb1 hcau (by omega) (by omega) (by omega)
  have ho3 : c = 0 → Own (W0.heap.size + 4) w3 (.slice va vn vc) (Nl.limbs q) ∧ Own (W0.heap.size + 4) w3 (.slice va' vn' vc') (Nl.limbs r) := fun h =>
    ⟨(hown h).1.caught hcau (by omega) (by omega), (hown h).2.caught hcau (by omega) (by omega)⟩
  have hc3 := cell_of_one hN3
  have hf3 := free_of_one hN3
  have hc4 := cell_of_one hM3
  have hf4 := free_of_one hM3
  have HR := Lib.hid (And.intro hc (And.intro hb3 (And.intro ho3 (And.intro hnil (And.intro hN3 hM3)))))
  clear hcau hN3 hM3 hb3 ho3 hc hb1 hsz hN1 hM1 hown hnil s0
  go_wp2_with fail
  go_region
  go_wp2_with fail
  obtain ⟨w4, hw4⟩ : ∃ w4, w4 = (w3.setCell ⟨w.heap.size + 1, 0, none⟩ (.slice va vn vc)).setCell ⟨w.heap.size + 1 + 1, 0, none⟩ (.slice va' vn' vc') := ⟨_, rfl⟩
  rw [← hw4]
  have n1 : w4.heap[w.heap.size + 1]? = some (.cells #[.slice va vn vc] 23 (0, 0)) := by
    rw [hw4]; exact (Below.heap_setCell _ ⟨w.heap.size + 1 + 1, 0, none⟩ _ (w.heap.size + 1) (by simp)).trans (one_setCell HR.out.2.2.2.2.1)
  have n2 : w4.heap[w.heap.size + 1 + 1]? = some (.cells #[.slice va' vn' vc'] 23 (0, 0)) := by
    rw [hw4]; exact one_setCell ((Below.heap_setCell _ ⟨w.heap.size + 1, 0, none⟩ _ (w.heap.size + 1 + 1) (by simp)).trans HR.out.2.2.2.2.2)
  have k1 : w4.drew.cell? ⟨w.heap.size + 1, 0, none⟩ = some (.slice va vn vc) := cell_of_one n1
  have k2 : w4.drew.cell? ⟨w.heap.size + 1 + 1, 0, none⟩ = some (.slice va' vn' vc') := cell_of_one n2
  have s0 := HS0.out
  have hb4 : Below w.heap.size w w4.drew := by rw [hw4]; exact ((HR.out.2.1.setCell (show w.heap.size ≤ w.heap.size + 1 by omega) _).setCell (show w.heap.size ≤ w.heap.size + 1 + 1 by omega) _).drew
  have ho4 : c = 0 → Own w.heap.size w4.drew (.slice va vn vc) (Nl.limbs q) ∧ Own w.heap.size w4.drew (.slice va' vn' vc') (Nl.limbs r) := fun h => by
    have := HR.out.2.2.1 h
    have x1 := ((this.1.setCell (a := ⟨w.heap.size + 1, 0, none⟩) (show w.heap.size + 1 < W0.heap.size + 4 by omega) (.slice va vn vc)).setCell (a := ⟨w.heap.size + 1 + 1, 0, none⟩) (show w.heap.size + 1 + 1 < W0.heap.size + 4 by omega) (.slice va' vn' vc')).mono (show w.heap.size ≤ W0.heap.size + 4 by omega)
    have x2 := ((this.2.setCell (a := ⟨w.heap.size + 1, 0, none⟩) (show w.heap.size + 1 < W0.heap.size + 4 by omega) (.slice va vn vc)).setCell (a := ⟨w.heap.size + 1 + 1, 0, none⟩) (show w.heap.size + 1 + 1 < W0.heap.size + 4 by omega) (.slice va' vn' vc')).mono (show w.heap.size ≤ W0.heap.size + 4 by omega)
    rw [← hw4] at x1 x2
    exact ⟨x1, x2⟩
  refine bodyPost_ret (v := .tuple #[.slice va vn vc, .slice va' vn' vc', .int .i64 c]) (by simp [results, Tryz.results184, go_sem, k1, k2]) rfl ?_
  exact ⟨c, HR.out.1, ⟨_, _, rfl, ho4, HR.out.2.2.2.1⟩, hb4⟩
end Go.Proofs.YtkbghamkalidcaaGreat
