/-
  What timesHalves and times do. Conditions: those that each theorem names.
  What power does. What limitedPower does. Conditions: those that each theorem names.
  What overWord and divisions by one word do. Conditions: those that each theorem names.
  What Valid does. Conditions: those that each theorem names.
-/
import Derived.Test.YtkbghamkalidcaaGreatHalves
import Derived.Test.YtkbghamkalidcaaGreatDivideAll
namespace Go.Proofs.YtkbghamkalidcaaGreat
open Go.RowKit

theorem timesHalves_any (va vb : Value) (m n cut : Nat) (w : World) (ha : IsN w va m) (hb : IsN w vb n) (hla : (Nl.limbs m).length ≤ 100000) (hlb : (Nl.limbs n).length ≤ 100000)
    (hcut : 2 ≤ cut) (hcut2 : cut ≤ 1000000) :
    Calls Tryz.prog 266 #[va, vb, .int .i64 cut] w fun e w' => (∃ v, e = .returned v ∧ Own w.heap.size w' v (Nl.limbs (m * n))) ∧ Below w.heap.size w w' := by
  have hmf : ∀ (fn : Fn) (first cap : Array Value) (w : World), (Instr.makeFunc fn first cap).run Tryz.prog w = .ok (.func fn first cap) w := fun _ _ _ _ => rfl
  have HA := Lib.hid ha
  have HB := Lib.hid hb
  clear ha hb
  go_enter Tryz.func266, Tryz.ntmps266
  go_wp2_with fail
  obtain ⟨W, hW⟩ : ∃ W, W = (w.alloc (.cells #[.int .i64 (cut : Int)] 3)).alloc (.cells #[.func (.func 272) #[] #[.pointer (some ⟨w.heap.size, 0, none⟩), .pointer (some ⟨w.heap.size + 1, 0, none⟩)]] 254) := ⟨_, rfl⟩
  rw [← hW]
  have hbW : Below w.heap.size w W := by rw [hW]; exact ((Below.refl _ _).alloc (Nat.le_refl _) _).alloc (by simp) _
  have hs : W.heap.size = w.heap.size + 2 := by rw [hW]; simp
  have c1 : W.cell? ⟨w.heap.size, 0, none⟩ = some (.int .i64 cut) := by rw [hW]; simp
  have c2 : W.cell? ⟨w.heap.size + 1, 0, none⟩ = some (.func (.func 272) #[] #[.pointer (some ⟨w.heap.size, 0, none⟩), .pointer (some ⟨w.heap.size + 1, 0, none⟩)]) := by rw [hW]; simp
  refine (halves_any cut w.heap.size (w.heap.size + 1) hcut hcut2 (m + n) m n (Nat.le_refl _) va vb W (HA.out.below hbW) (HB.out.below hbW) hla hlb c1 c2 (by omega) (by omega)).mono ?_
  rintro e w1 ⟨⟨v, rfl, hv⟩, hb⟩
  have hbb : Below w.heap.size w w1 := hbW.trans (hb.mono (by omega))
  have hvv := hv.mono (show w.heap.size ≤ W.heap.size by omega)
  clear hW hs c1 c2 hb hv
  go_wp2_with fail
  go_ret
  exact ⟨⟨_, rfl, hvv⟩, hbb⟩
theorem times_any (va vb : Value) (m n : Nat) (w : World) (ha : IsN w va m) (hb : IsN w vb n) (hla : (Nl.limbs m).length ≤ 100000) (hlb : (Nl.limbs n).length ≤ 100000) :
    Calls Tryz.prog 261 #[va, vb] w fun e w' => (∃ v, e = .returned v ∧ Own w.heap.size w' v (Nl.limbs (m * n))) ∧ Below w.heap.size w w' := by
  have h := Lib.hid (timesHalves_any va vb m n 80 w ha hb hla hlb (by omega) (by omega))
  clear ha hb
  go_enter Tryz.func261, Tryz.ntmps261
  go_wp2_with fail
  refine h.out.mono ?_
  rintro e w1 ⟨⟨v, rfl, hv⟩, hb⟩
  go_wp2_with fail
  go_ret
  exact ⟨⟨_, rfl, hv⟩, hb⟩
end Go.Proofs.YtkbghamkalidcaaGreat

namespace Go.Proofs.YtkbghamkalidcaaGreat
open Go.RowKit
theorem nbits_lt {m k : Nat} (h : m < 2 ^ k) : nbits m ≤ k := by
  by_cases h0 : m = 0
  · subst h0; simp [nbits_zero]
  · have h1 := nbits_le h0
    apply Classical.byContradiction
    intro hc
    have h2 : 2 ^ k ≤ 2 ^ (nbits m - 1) := Nat.pow_le_pow_right (by decide) (by omega)
    omega
theorem nbits_len (m : Nat) : nbits m ≤ 32 * (Nl.limbs m).length := nbits_lt (by rw [← pow32]; exact Nl.lt_limbs m)
end Go.Proofs.YtkbghamkalidcaaGreat

namespace Go.Proofs.YtkbghamkalidcaaGreat
open Go.RowKit

set_option maxHeartbeats 1000000 in
theorem overWord_any (va : Value) (m d : Nat) (w : World) (ha : IsN w va m) (hla : (Nl.limbs m).length ≤ 1000000) (hd : 0 < d) (hd2 : d < 4294967296) :
    Calls Tryz.prog 248 #[va, .int .u32 d] w fun e w' => (∃ v, e = .returned (.tuple #[v, .int .u32 ((m % d : Nat) : Int)]) ∧ Own w.heap.size w' v (Nl.limbs (m / d))) ∧ Below w.heap.size w w' := by
  have HA := Lib.hid ha
  obtain ⟨a, ca, rfl, -⟩ := ha.form
  clear ha
  have hmk := make_words 183 Tryz.underlying183 w ((Nl.limbs m).length) ((Nl.limbs m).length) (by omega) (by omega)
  go_enter Tryz.func248, Tryz.ntmps248
  go_wp2_with (with_reducible refine wp_copy rfl (.tmp 11) (.tmp 12) 183 183 rfl Tryz.underlying183 _ _ _ _ _ _ rfl rfl w.heap.size 0 (Nl.zeros ((Nl.limbs m).length)) (Nl.limbs m) (row_new w _) ?_ ?_ ?_ w.heap.size w ?_ ?_ ?_)
  · exact (Nat.min_eq_left (by omega)).symm
  · intro h0
    obtain ⟨b', f', h1, -, h2⟩ := (HA.out.alloc _).cells h0
    exact ⟨b', f', h1, h2⟩
  · rw [Nl.zeros_length]; omega
  · exact (Below.refl _ _).alloc (Nat.le_refl _) _
  · exact Nat.le_refl _
  intro w1 hr1 hb1
  rw [splice_zeros, Nat.sub_self, show Nl.zeros 0 = [] from rfl, List.append_nil] at hr1
  clear hmk
  go_wp2_with fail
  refine (divide_any w.heap.size _ _ d (Nl.limbs m) [] w1 rfl (by rw [List.append_nil]; exact hr1.out) (Nl.limbs_small _) (Nat.le_refl _) (by omega) hd hd2).mono ?_
  rintro e w2 ⟨rfl, Z', hr2, ho2, hl2, hs2, hv2⟩
  rw [List.append_nil] at hr2
  rw [Nl.val_limbs] at hv2
  have HL2 := Lib.hid hl2
  have HV2 := Lib.hid hv2
  have HR2 := Lib.hid hr2
  clear hl2 hv2 hr2
  go_wp2_with fail
  refine (trimmed_row _ _ Z' w2 HL2.out HR2.out (by omega)).mono ?_
  rintro e w3 ⟨rfl, rfl⟩
  go_wp2_with fail
  go_ret2
  have hb2 := below_of_only hb1 ho2 (Nat.le_refl _) hb1.size
  refine ⟨⟨_, ?_, Own.num (k := m / d) (Nat.le_refl _) HR2.out HL2.out (by omega) hs2 HV2.out⟩, hb2⟩
  rw [Nl.val_limbs]
  rfl

theorem limbs_one {n : Nat} (h0 : n ≠ 0) (h : n < 4294967296) : Nl.limbs n = [n] := by
  rw [Nl.limbs_pos h0, show n / 4294967296 = 0 from by omega, Nl.limbs_zero, Nat.mod_eq_of_lt h]

set_option maxHeartbeats 1000000 in
/-- a division by a number of one word -/
theorem overElements_one (va vb : Value) (m n : Nat) (w : World) (ha : IsN w va m) (hb : IsN w vb n) (hla : (Nl.limbs m).length ≤ 1000000) (hn : 0 < n) (hn2 : n < 4294967296) :
    Calls Tryz.prog 226 #[va, vb] w fun e w' => (∃ v u, e = .returned (.tuple #[v, u]) ∧ IsN w' v (m / n) ∧ IsN w' u (m % n)) ∧ Below w.heap.size w w' := by
  have hc := Lib.hid (compare_any va vb m n w ha hb)
  have HA := Lib.hid ha
  rw [IsN, limbs_one (by omega) hn2] at hb
  rcases hb with ⟨rfl, h⟩ | ⟨b, off, cap, rfl, -, hcb, hm, hbb, hx⟩
  · simp at h
  have c0 := hx 0 (by simp)
  simp only [Nat.add_zero, List.getD_cons_zero] at c0
  clear hx ha
  by_cases hlt : m < n
  · have hcm : cmpI m n = -1 := cmpI_lt hlt
    have hc' := hc.out
    rw [hcm] at hc'
    have HC := Lib.hid hc'
    have HLT := Lib.hid hlt
    clear hc' hlt hcm
    go_enter Tryz.func226, Tryz.ntmps226
    go_wp2_with fail
    refine HC.out.mono ?_
    rintro e w' ⟨rfl, j, rfl⟩
    go_wp2_with fail
    go_ret2
    refine ⟨⟨.slice none 0 0, va, rfl, ?_, ?_⟩, below_drewN _ _ _⟩
    · rw [Nat.div_eq_of_lt HLT.out, IsN, Nl.limbs_zero]; exact .inl ⟨rfl, rfl⟩
    · rw [Nat.mod_eq_of_lt HLT.out]; exact HA.out
  · have hcm : cmpI m n = 0 ∨ cmpI m n = 1 := by
      rcases Nat.lt_or_eq_of_le (Nat.le_of_not_lt hlt) with h | h
      · right; exact cmpI_gt h
      · left; rw [h]; exact cmpI_eq _
    obtain ⟨c, hcc⟩ : ∃ c, cmpI (m : Int) (n : Int) = c := ⟨_, rfl⟩
    have hc' := hc.out
    rw [hcc] at hc' hcm
    have HC := Lib.hid hc'
    have hc0 : ¬ (c < 0) := by omega
    clear hc' hlt hcc hcm hc
    go_enter Tryz.func226, Tryz.ntmps226
    go_wp2_with fail
    refine HC.out.mono ?_
    rintro e w' ⟨rfl, j, rfl⟩
    obtain ⟨w1, hw1⟩ : ∃ w1, w1 = w.drewN j := ⟨_, rfl⟩
    rw [← hw1]
    have c1 : w1.cell? ⟨b, off, none⟩ = some (.int .u32 n) := by rw [hw1]; exact c0
    have HA1 := Lib.hid (show IsN w1 va m by rw [hw1]; exact HA.out)
    have HB1 := Lib.hid (show Below w.heap.size w w1 by rw [hw1]; exact below_drewN _ _ _)
    clear hw1 c0
    go_wp2_with fail
    refine (overWord_any va m n w1 HA1.out hla hn hn2).mono ?_
    rintro e w2 ⟨⟨v, rfl, hv⟩, hb2⟩
    have HV := Lib.hid (show IsN w2 v (m / n) from hv.at.at)
    have HB2 := Lib.hid (show Below w.heap.size w w2 from HB1.out.trans (hb2.mono HB1.out.size))
    have hmod : m % n < 4294967296 := Nat.lt_trans (Nat.mod_lt _ hn) hn2
    obtain ⟨r, hr⟩ : ∃ r, r = m % n := ⟨_, rfl⟩
    rw [← hr] at hmod ⊢
    have HR := Lib.hid hr
    clear hv hb2 hr
    go_wp2_with fail
    refine (wordOf_num r w2 hmod).mono ?_
    rintro e w3 ⟨⟨u, rfl, hu⟩, hb3⟩
    go_wp2_with fail
    go_ret2
    first
      | exact ⟨⟨v, u, rfl, HV.out.below hb3, hu.at.at⟩, HB2.out.trans (hb3.mono HB2.out.size)⟩
      | (rw [← HR.out]; exact ⟨⟨v, u, rfl, HV.out.below hb3, hu.at.at⟩, HB2.out.trans (hb3.mono HB2.out.size)⟩)

/-- what a division leaves: a quotient and a rest -/
def DivOk (w w' : World) (e : Ending) (m n : Nat) : Prop := (∃ v u, e = .returned (.tuple #[v, u]) ∧ IsN w' v (m / n) ∧ IsN w' u (m % n)) ∧ Below w.heap.size w w'

theorem overBlocks_small (va vb : Value) (m n cut : Nat) (w : World) (hb : IsN w vb n) (hcut : (Nl.limbs n).length < cut)
    (h : ∀ w', Below w.heap.size w w' → Calls Tryz.prog 226 #[va, vb] w' fun e w'' => DivOk w' w'' e m n) :
    Calls Tryz.prog 227 #[va, vb, .int .i64 cut] w fun e w' => DivOk w w' e m n := by
  obtain ⟨b, cb, rfl, -⟩ := hb.form
  have H := Lib.hid h
  clear hb h
  have hc : ((Nl.limbs n).length : Int) < (cut : Int) := by omega
  clear hcut
  go_enter Tryz.func227, Tryz.ntmps227
  go_wp2_with fail
  obtain ⟨W, hW⟩ : ∃ W, W = (w.alloc (.cells #[.slice b (Nl.limbs n).length cb] 183)).alloc (.cells #[.int .i64 (cut : Int)] 3) := ⟨_, rfl⟩
  rw [← hW]
  have hbW : Below w.heap.size w W := by rw [hW]; exact ((Below.refl _ _).alloc (Nat.le_refl _) _).alloc (by simp) _
  refine (H.out W hbW).mono ?_
  rintro e w1 ⟨⟨v, u, rfl, hv, hu⟩, hb1⟩
  have HBB := Lib.hid (show Below w.heap.size w w1 from hbW.trans (hb1.mono hbW.size))
  have HV := Lib.hid (And.intro hv hu)
  clear hW hbW hb1 hv hu
  go_wp2_with fail
  go_ret2
  exact ⟨⟨v, u, rfl, HV.out.1, HV.out.2⟩, HBB.out⟩
theorem over_any (va vb : Value) (m n : Nat) (w : World) (ha : IsN w va m) (hb : IsN w vb n) (hla : (Nl.limbs m).length ≤ 1000000) (hlb : (Nl.limbs n).length ≤ 1000000)
    (he : (Nl.limbs m).length < (Nl.limbs n).length + 100 → Calls Tryz.prog 226 #[va, vb] w fun e w' => DivOk w w' e m n)
    (hk : (Nl.limbs n).length + 100 ≤ (Nl.limbs m).length → Calls Tryz.prog 227 #[va, vb, .int .i64 100] w fun e w' => DivOk w w' e m n) :
    Calls Tryz.prog 186 #[va, vb] w fun e w' => DivOk w w' e m n := by
  obtain ⟨a, ca, rfl, -⟩ := ha.form
  obtain ⟨b, cb, rfl, -⟩ := hb.form
  clear ha hb
  by_cases hlt : (Nl.limbs m).length < (Nl.limbs n).length + 100
  · have H := Lib.hid (he hlt)
    have h0 : ((Nl.limbs m).length : Int) - ((Nl.limbs n).length : Int) < 100 := by omega
    clear he hk hlt
    go_enter Tryz.func186, Tryz.ntmps186
    go_wp2_with fail
    refine H.out.mono ?_
    rintro e w1 ⟨⟨v, u, rfl, hv, hu⟩, hb1⟩
    have HV := Lib.hid (And.intro hv (And.intro hu hb1))
    clear hb1 hv hu
    go_wp2_with fail
    go_ret2
    exact ⟨⟨v, u, rfl, HV.out.1, HV.out.2.1⟩, HV.out.2.2⟩
  · have H := Lib.hid (hk (by omega))
    have h0 : ¬ (((Nl.limbs m).length : Int) - ((Nl.limbs n).length : Int) < 100) := by omega
    clear he hk hlt
    go_enter Tryz.func186, Tryz.ntmps186
    go_wp2_with fail
    refine H.out.mono ?_
    rintro e w1 ⟨⟨v, u, rfl, hv, hu⟩, hb1⟩
    have HV := Lib.hid (And.intro hv (And.intro hu hb1))
    clear hb1 hv hu
    go_wp2_with fail
    go_ret2
    exact ⟨⟨v, u, rfl, HV.out.1, HV.out.2.1⟩, HV.out.2.2⟩
theorem overBlocks_one (va vb : Value) (m n cut : Nat) (w : World) (ha : IsN w va m) (hb : IsN w vb n) (hla : (Nl.limbs m).length ≤ 1000000) (hn : 0 < n) (hn2 : n < 4294967296) (hcut : 2 ≤ cut) :
    Calls Tryz.prog 227 #[va, vb, .int .i64 cut] w fun e w' => DivOk w w' e m n :=
  overBlocks_small va vb m n cut w hb (by rw [limbs_one (by omega) hn2]; simp; omega) fun _ hb' => overElements_one va vb m n _ (ha.below hb') (hb.below hb') hla hn hn2
theorem over_one (va vb : Value) (m n : Nat) (w : World) (ha : IsN w va m) (hb : IsN w vb n) (hla : (Nl.limbs m).length ≤ 1000000) (hn : 0 < n) (hn2 : n < 4294967296) :
    Calls Tryz.prog 186 #[va, vb] w fun e w' => DivOk w w' e m n :=
  over_any va vb m n w ha hb hla (by rw [limbs_one (by omega) hn2]; simp) (fun _ => overElements_one va vb m n w ha hb hla hn hn2) (fun _ => overBlocks_one va vb m n 100 w ha hb hla hn hn2 (by decide))
end Go.Proofs.YtkbghamkalidcaaGreat

namespace Go.Proofs.YtkbghamkalidcaaGreat
open Go.RowKit

/-- does a list stand for a natural number? -/
def validB (xs : List Nat) : Bool := decide (xs.length ≤ 1024) && (xs.getLast? != some 0)
theorem validB_norm {xs : List Nat} (hs : Nl.Small xs) (h : validB xs = true) : ∃ m, xs = Nl.limbs m ∧ (Nl.limbs m).length ≤ 1024 := by
  simp only [validB, Bool.and_eq_true, decide_eq_true_eq, bne_iff_ne] at h
  refine ⟨Nl.val xs, (Nl.limbs_val ⟨hs, h.2⟩).symm, ?_⟩
  rw [Nl.limbs_val ⟨hs, h.2⟩]; exact h.1
theorem validB_limbs {m : Nat} (h : (Nl.limbs m).length ≤ 1024) : validB (Nl.limbs m) = true := by
  simp only [validB, Bool.and_eq_true, decide_eq_true_eq, bne_iff_ne]
  exact ⟨h, Nl.limbs_last m⟩
theorem validB_long {xs : List Nat} (h : 1024 < xs.length) : validB xs = false := by
  simp only [validB, Bool.and_eq_false_iff, decide_eq_false_iff_not]; left; omega
theorem getLast_getD {xs : List Nat} (h : 0 < xs.length) : xs.getLast? = some (xs.getD (xs.length - 1) 0) := by
  rw [List.getLast?_eq_getElem?]
  simp [show xs.length - 1 < xs.length by omega]

set_option maxHeartbeats 1000000 in
theorem valid_any (v : Value) (xs : List Nat) (w : World) (h : At w v xs) :
    Calls Tryz.prog 107 #[v] w fun e w' => e = .returned (.bool (validB xs)) ∧ w = w' := by
  by_cases hl : xs.length ≤ 1024
  · have hl' : decide ((xs.length : Int) ≤ 1024) = true := by simp; omega
    by_cases h0 : xs.length = 0
    · have e0 : ((xs.length : Int) == 0) = true := by simp [h0]
      have hx : xs = [] := List.eq_nil_of_length_eq_zero h0
      have hb : validB xs = true := by rw [hx]; rfl
      rw [hb]
      obtain ⟨a, ca, rfl, -⟩ := h.form
      clear h hx hb h0 hl
      go_enter Tryz.func107, Tryz.ntmps107
      go_wp2
      go_ret
      exact ⟨rfl, rfl⟩
    · have e0 : ((xs.length : Int) == 0) = false := by rw [beq_eq_false_iff_ne]; omega
      rcases h with ⟨rfl, rfl⟩ | ⟨b, off, cap, rfl, -, hc, hm, hb, hx⟩
      · simp at h0
      have c0 := hx (xs.length - 1) (by omega)
      have hla := getLast_getD (xs := xs) (by omega)
      obtain ⟨x, ex⟩ : ∃ x, xs.getD (xs.length - 1) 0 = x := ⟨_, rfl⟩
      rw [ex] at c0 hla
      have hv : validB xs = !(x == 0) := by
        rw [validB, hla, decide_eq_true hl, Bool.true_and]
        simp [bne]
      rw [hv]
      have hpos : 1 ≤ xs.length := by omega
      clear hx hla ex hv h0
      by_cases hx0 : x = 0
      · have t0 : ((x : Int) != 0) = false := by simp [hx0]
        have t1 : (!(x == 0)) = false := by simp [hx0]
        rw [t1]
        clear t1 hx0
        go_enter Tryz.func107, Tryz.ntmps107
        go_wp2
        go_ret
        exact ⟨rfl, rfl⟩
      · have t0 : ((x : Int) != 0) = true := by rw [bne_iff_ne]; omega
        have t1 : (!(x == 0)) = true := by simp [hx0]
        rw [t1]
        clear t1 hx0
        go_enter Tryz.func107, Tryz.ntmps107
        go_wp2
        go_ret
        exact ⟨rfl, rfl⟩
  · have hl' : decide ((xs.length : Int) ≤ 1024) = false := by simp; omega
    rw [validB_long (by omega)]
    obtain ⟨a, ca, rfl, -⟩ := h.form
    clear h hl
    go_enter Tryz.func107, Tryz.ntmps107
    go_wp2
    go_ret
    exact ⟨rfl, rfl⟩
end Go.Proofs.YtkbghamkalidcaaGreat
