/-
  What one does. Conditions: those that each theorem names.
-/
import Derived.Test.YtikgfdkaikpmhaaGreatGuard
namespace Go.Proofs.YtikgfdkaikpmhaaGreat
open Go.RowKit

theorem Own.setCell {base : Nat} {w : World} {v : Value} {xs : List Nat} (h : Own base w v xs) {a : Addr} (ha : a.block < base) (u : Value) : Own base (w.setCell a u) v xs := by
  rcases h with h | ⟨g, L, h1, h2, h3, h4⟩
  · exact .inl h
  · refine .inr ⟨g, L, h1, h2, ?_, h4⟩
    unfold Row
    rw [Below.heap_setCell _ _ _ _ (by omega)]
    exact h3

/-- what a piece of work makes: a number, or one of the package's errors (k is not 0 then) -/
def NatDoes (G : FuncId) (caps : Array Value) (w : World) (k : Int) (m : Nat) : Prop := ∀ W, Below w.heap.size w W → Calls Tryz.prog G caps W fun e w' => Below W.heap.size W w' ∧
  ((k = 0 ∧ ∃ v, e = .returned v ∧ IsN w' v m) ∨ (k ≠ 0 ∧ e = .panicked [{ v := .iface 26 (.int .i64 k), recovered := false }]))
/-- the error that a call ends in -/
def codeOf (k : Int) (m : Nat) : Int := if k ≠ 0 then k else if (Nl.limbs m).length ≤ 1024 then 0 else 2
/-- the results of a call -/
def NatOut (w w' : World) (e : Ending) (c : Int) (m : Nat) : Prop := (∃ v, e = .returned (.tuple #[v, .int .i64 c]) ∧ (c = 0 → Own w.heap.size w' v (Nl.limbs m)) ∧ (c ≠ 0 → v = .slice none 0 0)) ∧ Below w.heap.size w w'

set_option maxHeartbeats 1000000 in
/-- the work inside a guarded call -/
theorem one1_any (G : FuncId) (caps : Array Value) (w : World) (k : Int) (m K N : Nat) (hK : w.heap[K]? = some (.cells #[.func (.func G) #[] caps] 71 (0, 0))) (hN : w.heap[N]? = some (.cells #[.slice none 0 0] 23 (0, 0)))
    (h : NatDoes G caps w k m) (hF : ∀ args w, (callFunc G args).run Tryz.prog w = .ok (.enter G args) w) :
    Calls Tryz.prog 92 #[.pointer (some ⟨K, 0, none⟩), .pointer (some ⟨N, 0, none⟩)] w fun e w' => (∀ j, j < w.heap.size → j ≠ N → w'.heap[j]? = w.heap[j]?) ∧ w.grownBy w' (some N) ∧
      ((codeOf k m = 0 ∧ e = .returned (.tuple #[]) ∧ ∃ v, w'.heap[N]? = some (.cells #[v] 23 (0, 0)) ∧ Own w.heap.size w' v (Nl.limbs m)) ∨
        (codeOf k m ≠ 0 ∧ e = .panicked [{ v := .iface 26 (.int .i64 (codeOf k m)), recovered := false }] ∧ w'.heap[N]? = some (.cells #[.slice none 0 0] 23 (0, 0)))) := by
  have hk := cell_of_one hK
  have hw := Lib.hid (h w (Below.refl _ _))
  have HN := Lib.hid hN
  have hNl := lt_of_block hN
  clear h hN hK
  go_enter Tryz.func92, Tryz.ntmps92
  go_wp2_with fail
  refine hw.out.mono ?_
  rintro e w1 ⟨hb1, ⟨rfl, v, rfl, hv⟩ | ⟨hk0, rfl⟩⟩
  · have HB1 := Lib.hid hb1
    have HV := Lib.hid hv
    have hN1 := Lib.hid ((hb1.block N hNl).trans HN.out)
    clear hb1 hv
    by_cases hl : (Nl.limbs m).length ≤ 1024
    · have hc0 : codeOf 0 m = 0 := by simp [codeOf, hl]
      have HC := Lib.hid hc0
      clear hc0
      go_wp2_with fail
      refine (kept_yes v m w1 HV.out hl).mono ?_
      rintro e w2 ⟨⟨u, rfl, hu⟩, hb2⟩
      obtain ⟨ua, uc, rfl, -⟩ := hu.at.form
      have hN2 : w2.heap[N]? = some (.cells #[.slice none 0 0] 23 (0, 0)) := (hb2.block N (Nat.lt_of_lt_of_le hNl HB1.out.size)).trans hN1.out
      have hc2 := cell_of_one hN2
      have hf2 := free_of_one hN2
      have HB2 := Lib.hid (HB1.out.trans (hb2.mono HB1.out.size))
      have HU := Lib.hid (hu.mono HB1.out.size)
      have HN2 := Lib.hid hN2
      clear hb2 hu hN2
      go_wp2_with fail
      go_end0
      have hnb : ∀ j, j < w.heap.size → j ≠ N → (w2.setCell ⟨N, 0, none⟩ (.slice ua (Nl.limbs m).length uc)).heap[j]? = w.heap[j]? := fun j hj hne => (Below.heap_setCell w2 ⟨N, 0, none⟩ _ j hne).trans (HB2.out.block j hj)
      refine ⟨hnb, ?_, (.inl ⟨HC.out, rfl, _, one_setCell HN2.out, HU.out.setCell hNl _⟩)⟩
      exact grown_trans (grown_of_below HB2.out) (Only.setCell N 0 _ w2)
    · have hc2 : codeOf 0 m = 2 := by simp [codeOf, hl]
      have HC := Lib.hid hc2
      clear hc2
      go_wp2_with fail
      refine (kept_no v m w1 HV.out (by omega)).mono ?_
      rintro e w2 ⟨rfl, rfl⟩
      refine ⟨rfl, fun j hj _ => HB1.out.block j hj, grown_of_below HB1.out, .inr ⟨?_, ?_, hN1.out⟩⟩
      · rw [HC.out]; decide
      · rw [HC.out]
  · have hN1 := (hb1.block N hNl).trans HN.out
    have hc : codeOf k m = k := by simp [codeOf, hk0]
    refine ⟨rfl, fun j hj _ => hb1.block j hj, grown_of_below hb1, .inr ⟨?_, ?_, hN1⟩⟩
    · rw [hc]; exact hk0
    · rw [hc]

theorem NatDoes.mono {G : FuncId} {caps : Array Value} {w W : World} {k : Int} {m : Nat} (h : NatDoes G caps w k m) (hb : Below w.heap.size w W) : NatDoes G caps W k m :=
  fun V hV => h V (hb.trans (hV.mono hb.size))
/-- what holds when the guarded call is over -/
def OneR (w W0 : World) (vs : List (Value × List Nat)) (k : Int) (m : Nat) (N : Nat) (c : Int) (w1 : World) : Prop :=
  (((∀ p ∈ vs, validB p.2 = true) ∧ c = codeOf k m) ∨ ((∃ p ∈ vs, validB p.2 = false) ∧ c = 1)) ∧ Below w.heap.size w w1 ∧ W0.heap.size < w1.heap.size ∧
    ∃ a n cp, w1.heap[N]? = some (.cells #[.slice a n cp] 23 (0, 0)) ∧ (c = 0 → Own (W0.heap.size + 1) w1 (.slice a n cp) (Nl.limbs m)) ∧ (c ≠ 0 → Value.slice a n cp = .slice none 0 0)

theorem slice_of_own {base : Nat} {w : World} {v : Value} {xs : List Nat} (h : Own base w v xs) : ∃ a n c, v = .slice a n c := by
  obtain ⟨a, c, h1, -⟩ := h.at.form
  exact ⟨a, _, c, h1⟩

set_option maxHeartbeats 1000000 in
theorem one_any (G : FuncId) (caps : Array Value) (w : World) (k : Int) (m : Nat) (a : Option Addr) (b : Nat) (vs : List (Value × List Nat)) (hvl : vs.length ≤ 100) (ha : 0 < vs.length → a = some ⟨b, 0, none⟩ ∧ b < w.heap.size) (hg : Given w b vs)
    (h : (∀ p ∈ vs, validB p.2 = true) → NatDoes G caps w k m) (hF : ∀ args w, (callFunc G args).run Tryz.prog w = .ok (.enter G args) w) :
    Calls Tryz.prog 57 #[.func (.func G) #[] caps, .slice a vs.length vs.length] w fun e w' => (∃ c, (((∀ p ∈ vs, validB p.2 = true) ∧ c = codeOf k m) ∨ ((∃ p ∈ vs, validB p.2 = false) ∧ c = 1)) ∧ NatOut w w' e c m) := by
  have hmf : ∀ (fn : Fn) (first cap : Array Value) (w : World), (Instr.makeFunc fn first cap).run Tryz.prog w = .ok (.func fn first cap) w := fun _ _ _ _ => rfl
  have H := Lib.hid h
  have HG := Lib.hid hg
  have HA := Lib.hid ha
  clear h hg ha
  go_enter Tryz.func57, Tryz.ntmps57
  go_wp2_with fail
  obtain ⟨W0, hW0⟩ : ∃ W0, W0 = (w.alloc (.cells #[.func (.func G) #[] caps] 71)).alloc (.cells #[.slice none 0 0] 23) := ⟨_, rfl⟩
  rw [← hW0]
  have hb0 : Below w.heap.size w W0 := by rw [hW0]; exact ((Below.refl _ _).alloc (Nat.le_refl _) _).alloc (by simp) _
  have hs0 : W0.heap.size = w.heap.size + 2 := by rw [hW0]; simp
  have hK : W0.heap[w.heap.size]? = some (.cells #[.func (.func G) #[] caps] 71 (0, 0)) := by rw [hW0]; exact heap_alloc2_old w _ _
  have hN : W0.heap[w.heap.size + 1]? = some (.cells #[.slice none 0 0] 23 (0, 0)) := by rw [hW0]; exact heap_alloc2_new w _ _
  have HB0 := Lib.hid hb0
  have HS0 := Lib.hid hs0
  have HK := Lib.hid hK
  have HN := Lib.hid hN
  clear hW0 hb0 hs0 hK hN
  refine (guarded_any 92 _ W0 a b vs (OneR w W0 vs k m (w.heap.size + 1)) hvl (fun h0 => ⟨(HA.out h0).1, Nat.lt_of_lt_of_le (HA.out h0).2 HB0.out.size⟩) ?_ ?_ ?_ (fun _ _ => by kernel_rfl)).mono ?_
  · intro i hi
    obtain ⟨g1, g2⟩ := HG.out i hi
    exact ⟨(HB0.out.cell (p := ⟨b, i, none⟩) (HA.out (by omega)).2).trans g1, g2.below HB0.out⟩
  · intro hall W hW
    have hbW : Below W0.heap.size W0 W := by rw [hW]; exact (Below.refl _ _).alloc (Nat.le_refl _) _
    have hsW : W.heap.size = W0.heap.size + 1 := by rw [hW]; simp
    have hWe : W.heap[W0.heap.size]? = some (.cells #[.int .i64 0] 26 (0, 0)) := by rw [hW]; exact heap_alloc_new _ _
    have s0 := HS0.out
    have hKW := (hbW.block w.heap.size (by omega)).trans HK.out
    have hNW := (hbW.block (w.heap.size + 1) (by omega)).trans HN.out
    refine (one1_any G caps W k m w.heap.size (w.heap.size + 1) hKW hNW ((H.out hall).mono (HB0.out.trans (hbW.mono (by omega)))) hF).mono ?_
    rintro e w1 ⟨hj, hgr, hr⟩
    have hbw1 : Below w.heap.size w w1 := by
      refine HB0.out.trans (Below.trans (hbW.mono (by omega)) ?_)
      exact ⟨hgr.os, hgr.tape, hgr.output, hgr.size, fun q hq => hj q (by omega) (by omega)⟩
    have hsz : W0.heap.size < w1.heap.size := by have := hgr.size; omega
    refine ⟨hj _ (by omega) (by omega), ?_⟩
    rcases hr with ⟨hc, rfl, v, h1, h2⟩ | ⟨hc, rfl, h1⟩
    · left
      obtain ⟨va, vn, vc, rfl⟩ := slice_of_own h2
      exact ⟨rfl, .inl ⟨hall, hc.symm⟩, hbw1, hsz, va, vn, vc, h1, fun _ => by rw [hsW] at h2; exact h2, fun h => absurd rfl h⟩
    · right
      exact ⟨_, rfl, .inl ⟨hall, rfl⟩, hbw1, hsz, none, 0, 0, h1, fun h => absurd h hc, fun _ => rfl⟩
  · intro W hW hex
    have hbW : Below W0.heap.size W0 W := by rw [hW]; exact (Below.refl _ _).alloc (Nat.le_refl _) _
    have hsW : W.heap.size = W0.heap.size + 1 := by rw [hW]; simp
    have s0 := HS0.out
    exact ⟨.inr ⟨hex, rfl⟩, HB0.out.trans (hbW.mono (by omega)), by omega, none, 0, 0, (hbW.block (w.heap.size + 1) (by omega)).trans HN.out, fun h => absurd h (by decide), fun _ => rfl⟩
  rintro e w2 ⟨c, w1, rfl, ⟨hc, hb1, hsz, va, vn, vc, hN1, hown, hnil⟩, rfl⟩
  have s0 := HS0.out
  obtain ⟨w3, hw3⟩ : ∃ w3, w3 = w1.setCell ⟨W0.heap.size, 0, none⟩ (.int .i64 c) := ⟨_, rfl⟩
  rw [← hw3]
  have hN3 : w3.heap[w.heap.size + 1]? = some (.cells #[.slice va vn vc] 23 (0, 0)) := by rw [hw3, Below.heap_setCell _ _ _ _ (by show w.heap.size + 1 ≠ W0.heap.size; omega)]; exact hN1
  have hb3 : Below w.heap.size w w3 := by rw [hw3]; exact hb1.setCell (show w.heap.size ≤ W0.heap.size by omega) _
  have ho3 : c = 0 → Own (W0.heap.size + 1) w3 (.slice va vn vc) (Nl.limbs m) := fun h => by rw [hw3]; exact (hown h).setCell (by show W0.heap.size < _; omega) _
  have hc3 := cell_of_one hN3
  have hf3 := free_of_one hN3
  have HR := Lib.hid (And.intro hc (And.intro hb3 (And.intro ho3 (And.intro hnil hN3))))
  clear hw3 hN3 hb3 ho3 hc hb1 hsz hN1 hown hnil s0
  go_wp2_with fail
  have hN4 := one_setCell (u := .slice va vn vc) HR.out.2.2.2.2
  have hcell := cell_of_one hN4
  refine bodyPost_ret (v := .tuple #[.slice va vn vc, .int .i64 c]) (by simp [results, Tryz.results57, go_sem, hcell]) rfl ?_
  refine ⟨c, HR.out.1, ⟨_, rfl, fun h => ?_, HR.out.2.2.2.1⟩, HR.out.2.1.setCell (by show w.heap.size ≤ w.heap.size + 1; omega) _⟩
  have s0 := HS0.out
  exact ((HR.out.2.2.1 h).setCell (show w.heap.size + 1 < W0.heap.size + 1 by omega) _).mono (by omega)
end Go.Proofs.YtikgfdkaikpmhaaGreat
