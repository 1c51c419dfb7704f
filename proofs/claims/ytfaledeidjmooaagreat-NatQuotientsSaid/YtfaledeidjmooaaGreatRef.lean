/-
  What light, refused and the reference's Fits, at, Valid and Same do. Conditions: those that each theorem names.
-/
import Derived.Test.YtfaledeidjmooaaGreatWords
import Derived.BigRegion
namespace Go.Proofs.YtfaledeidjmooaaGreat
open Go.RowKit

theorem light_any (v : Value) (xs : List Nat) (n : Nat) (w : World) (h : At w v xs) :
    Calls Tryz.prog 17 #[v, .int .i64 n] w fun e w' => e = .returned (.bool (decide (xs.length ≤ n))) ∧ w = w' := by
  obtain ⟨a, ca, rfl, -⟩ := h.form
  clear h
  obtain ⟨b, hb⟩ : ∃ b, b = decide (xs.length ≤ n) := ⟨_, rfl⟩
  rw [← hb]
  have e2 : decide (xs.length ≤ n) = b := hb.symm
  clear hb
  go_enter Tryz.func17, Tryz.ntmps17
  go_wp2
  go_ret
  exact ⟨rfl, rfl⟩
/-- is a call refused with this error? -/
theorem refused_any (v : Value) (xs : List Nat) (c k : Int) (w : World) (h : At w v xs) :
    Calls Tryz.prog 22 #[v, .int .i64 c, .int .i64 k] w fun e w' => e = .returned (.bool (decide (c = k ∧ xs.length = 0))) ∧ w = w' := by
  obtain ⟨a, ca, rfl, -⟩ := h.form
  clear h
  by_cases h1 : c = k
  · have e0 : ((c : Int) == k) = true := by simp [h1]
    by_cases h2 : xs.length = 0
    · have e1 : ((xs.length : Int) == 0) = true := by simp [h2]
      rw [show decide (c = k ∧ xs.length = 0) = true by simp [h1, h2]]
      clear h1 h2
      go_enter Tryz.func22, Tryz.ntmps22
      go_wp2
      go_ret
      exact ⟨rfl, rfl⟩
    · have e1 : ((xs.length : Int) == 0) = false := by rw [beq_eq_false_iff_ne]; omega
      rw [show decide (c = k ∧ xs.length = 0) = false by simp [h1, h2]]
      clear h1 h2
      go_enter Tryz.func22, Tryz.ntmps22
      go_wp2
      go_ret
      exact ⟨rfl, rfl⟩
  · have e0 : ((c : Int) == k) = false := by rw [beq_eq_false_iff_ne]; exact h1
    rw [show decide (c = k ∧ xs.length = 0) = false by simp [h1]]
    clear h1
    go_enter Tryz.func22, Tryz.ntmps22
    go_wp2
    go_ret
    exact ⟨rfl, rfl⟩
theorem fits_any (v : Value) (xs : List Nat) (w : World) (h : At w v xs) :
    Calls Tryz.prog 65 #[v] w fun e w' => e = .returned (.bool (decide (xs.length ≤ 1024))) ∧ w = w' := by
  obtain ⟨a, ca, rfl, -⟩ := h.form
  clear h
  obtain ⟨b, hb⟩ : ∃ b, b = decide (xs.length ≤ 1024) := ⟨_, rfl⟩
  rw [← hb]
  have e2 : decide ((xs.length : Int) ≤ 1024) = b := by rw [hb]; congr 1; simp only [eq_iff_iff]; omega
  clear hb
  go_enter Tryz.func65, Tryz.ntmps65
  go_wp2
  go_ret
  exact ⟨rfl, rfl⟩

theorem at_any (v : Value) (xs : List Nat) (i : Nat) (w : World) (h : At w v xs) (hs : Nl.Small xs) :
    Calls Tryz.prog 64 #[v, .int .i64 i] w fun e w' => e = .returned (.int .u64 ((xs.getD i 0 : Nat) : Int)) ∧ w = w' := by
  by_cases hl : xs.length ≤ i
  · rw [show xs.getD i 0 = 0 by rw [List.getD_eq_getElem?_getD, List.getElem?_eq_none hl]; rfl]
    have e0 : decide (xs.length ≤ i) = true := decide_eq_true hl
    obtain ⟨a, ca, rfl, -⟩ := h.form
    clear h hl
    go_enter Tryz.func64, Tryz.ntmps64
    go_wp2
    go_ret
    exact ⟨rfl, rfl⟩
  · have e0 : decide (xs.length ≤ i) = false := decide_eq_false hl
    rcases h with ⟨rfl, rfl⟩ | ⟨b, off, cap, rfl, -, hc, hm, hb, hx⟩
    · simp at hl
    have c0 := hx i (by omega)
    have hi' : i < xs.length := by omega
    have hsm := hs.getD i
    obtain ⟨x, ex⟩ : ∃ x, xs.getD i 0 = x := ⟨_, rfl⟩
    rw [ex] at c0 hsm ⊢
    have hwx : IntKind.u64.wrap (x : Int) = x := by rw [IntKind.wrap_u64]; omega
    clear hx ex hl hs
    go_enter Tryz.func64, Tryz.ntmps64
    go_wp2
    go_ret
    exact ⟨rfl, rfl⟩
set_option maxHeartbeats 1000000 in
theorem refValid_any (v : Value) (xs : List Nat) (w : World) (h : At w v xs) :
    Calls Tryz.prog 21 #[v] w fun e w' => e = .returned (.bool (validB xs)) ∧ w = w' := by
  by_cases hl : xs.length ≤ 1024
  · have hl' : decide ((xs.length : Int) ≤ 1024) = true := by simp; omega
    by_cases h0 : xs.length = 0
    · have e0 : ((xs.length : Int) == 0) = true := by simp [h0]
      have hx : xs = [] := List.eq_nil_of_length_eq_zero h0
      have hb : validB xs = true := by rw [hx]; rfl
      rw [hb]
      obtain ⟨a, ca, rfl, -⟩ := h.form
      clear h hx hb h0 hl
      go_enter Tryz.func21, Tryz.ntmps21
      go_wp2
      go_ret
      exact ⟨rfl, rfl⟩
    · have e0 : ((xs.length : Int) == 0) = false := by rw [beq_eq_false_iff_ne]; omega
      rcases h with ⟨rfl, rfl⟩ | ⟨b, off, cap, rfl, -, hc, hm, hb, hx⟩
      · simp at h0
      have c0 := hx (xs.length - 1) (by omega)
      have hla := getLast_getD (xs := xs) (by omega)
      obtain ⟨x, ex⟩ : ∃ x, xs.getD (xs.length - 1) 0 = x := ⟨_, rfl⟩
      rw [ex] at c0 hla
      have hv : validB xs = !(x == 0) := by
        rw [validB, hla, decide_eq_true hl, Bool.true_and]
        simp [bne]
      rw [hv]
      have hpos : 1 ≤ xs.length := by omega
      clear hx hla ex hv h0
      by_cases hx0 : x = 0
      · have t0 : ((x : Int) != 0) = false := by simp [hx0]
        have t1 : (!(x == 0)) = false := by simp [hx0]
        rw [t1]
        clear t1 hx0
        go_enter Tryz.func21, Tryz.ntmps21
        go_wp2
        go_ret
        exact ⟨rfl, rfl⟩
      · have t0 : ((x : Int) != 0) = true := by rw [bne_iff_ne]; omega
        have t1 : (!(x == 0)) = true := by simp [hx0]
        rw [t1]
        clear t1 hx0
        go_enter Tryz.func21, Tryz.ntmps21
        go_wp2
        go_ret
        exact ⟨rfl, rfl⟩
  · have hl' : decide ((xs.length : Int) ≤ 1024) = false := by simp; omega
    rw [validB_long (by omega)]
    obtain ⟨a, ca, rfl, -⟩ := h.form
    clear h hl
    go_enter Tryz.func21, Tryz.ntmps21
    go_wp2
    go_ret
    exact ⟨rfl, rfl⟩

/-- are two lists the same? -/
def sameB (xs ys : List Nat) : Bool := decide (xs = ys)
theorem take_all {xs ys : List Nat} {k : Nat} (hl : xs.length = ys.length) (hk : xs.length ≤ k) (h : xs.take k = ys.take k) : xs = ys := by
  rw [List.take_of_length_le hk, List.take_of_length_le (by omega)] at h
  exact h
theorem take_snoc {xs ys : List Nat} {k : Nat} (hl : xs.length = ys.length) (hk : k < xs.length) (h : xs.take k = ys.take k) (hx : xs.getD k 0 = ys.getD k 0) : xs.take (k + 1) = ys.take (k + 1) := by
  have hk2 : k < ys.length := by omega
  rw [List.getD_eq_getElem?_getD, List.getD_eq_getElem?_getD, List.getElem?_eq_getElem hk, List.getElem?_eq_getElem hk2] at hx
  rw [List.take_add_one, List.take_add_one, h, List.getElem?_eq_getElem hk, List.getElem?_eq_getElem hk2]
  simp only [Option.getD_some] at hx
  rw [hx]

set_option maxHeartbeats 1000000 in
theorem same_any (va vb : Value) (xs ys : List Nat) (w : World) (ha : At w va xs) (hb : At w vb ys) :
    Calls Tryz.prog 34 #[va, vb] w fun e w' => e = .returned (.bool (sameB xs ys)) ∧ ∃ k, w' = w.drewN k := by
  have sa := ha.short
  have sb := hb.short
  obtain ⟨a, ca, rfl, fa⟩ := ha.form
  obtain ⟨b, cb, rfl, fb⟩ := hb.form
  clear ha hb
  by_cases hl : xs.length = ys.length
  · have e0 : ((xs.length : Int) != (ys.length : Int)) = false := by simp [hl]
    have HL := Lib.hid hl
    clear hl
    go_enter Tryz.func34, Tryz.ntmps34
    go_wp2
    go_loopw [5] (fun i wr => ∃ k : Nat, k ≤ xs.length ∧ i = .int .i64 (k : Int) ∧ Hid (xs.take k = ys.take k) ∧ Hid (∃ j, wr = w.drewN j)) (fun i _ => xs.length - (intOf i).toNat)
    case atStart => exact ⟨0, Nat.zero_le _, rfl, by simp [Hid], ⟨0, rfl⟩⟩
    case round =>
      obtain ⟨k, hk, rfl, hd, hw⟩ := hrel
      by_cases hkl : k < xs.length
      · have t0 : decide (k < xs.length) = true := decide_eq_true hkl
        obtain ⟨x, hx⟩ : ∃ x, x = xs.getD k 0 := ⟨_, rfl⟩
        obtain ⟨y, hy⟩ : ∃ y, y = ys.getD k 0 := ⟨_, rfl⟩
        rcases fa with fa | ⟨ba, oa, rfl, -, hca, -, hba, hcx⟩
        · rw [fa] at hkl; simp at hkl
        have hkb : k < ys.length := by have := HL.out; omega
        rcases fb with fb | ⟨bb, ob, rfl, -, hcb, -, hbb, hcy⟩
        · rw [fb] at hkb; simp at hkb
        have c1 := hcx k hkl
        have c2 := hcy k hkb
        rw [← hx] at c1
        rw [← hy] at c2
        have c1' : wr.cell? ⟨ba, oa + k, none⟩ = some (.int .u32 (x : Int)) := by obtain ⟨q, rfl⟩ := hw.out; exact c1
        have c2' : wr.cell? ⟨bb, ob + k, none⟩ = some (.int .u32 (y : Int)) := by obtain ⟨q, rfl⟩ := hw.out; exact c2
        have Hx := Lib.hid hx
        have Hy := Lib.hid hy
        clear hx hy c1 c2 hcx hcy
        by_cases hxy : x = y
        · have e1 : ((x : Int) != (y : Int)) = false := by simp [hxy]
          have HE := Lib.hid hxy
          clear hxy
          go_wp2
          go_quiet (fail)
          go_wp2
          go_roundw
          case rel =>
            refine ⟨k + 1, hkl, by go_num, take_snoc HL.out hkl hd.out (by rw [← Hx.out, ← Hy.out]; exact HE.out), ?_⟩
            obtain ⟨q, hq⟩ := hw.out
            exact ⟨q + nq, by rw [hq]; exact drewN_drewN ..⟩
          case measure => simp [intOf] <;> omega
        · have e1 : ((x : Int) != (y : Int)) = true := by rw [bne_iff_ne]; omega
          have hf : sameB xs ys = false := decide_eq_false fun h => hxy (by rw [Hx.out, Hy.out, h])
          have HF := Lib.hid hf
          clear hxy hf
          go_wp2
          go_quiet (fail)
          go_wp2
          go_ret
          obtain ⟨q, hq⟩ := hw.out
          exact ⟨by rw [HF.out]; rfl, q + nq, by rw [hq]; exact drewN_drewN ..⟩
      · have t0 : decide (k < xs.length) = false := decide_eq_false hkl
        have hf : sameB xs ys = true := decide_eq_true (take_all HL.out (by omega) hd.out)
        have HF := Lib.hid hf
        clear hf hkl
        go_wp2
        go_ret
        exact ⟨by rw [HF.out]; rfl, hw.out⟩
  · have e0 : ((xs.length : Int) != (ys.length : Int)) = true := by rw [bne_iff_ne]; omega
    have hf : sameB xs ys = false := decide_eq_false fun h => hl (by rw [h])
    rw [hf]
    clear hf hl
    go_enter Tryz.func34, Tryz.ntmps34
    go_wp2
    go_ret
    exact ⟨rfl, 0, rfl⟩
end Go.Proofs.YtfaledeidjmooaaGreat
