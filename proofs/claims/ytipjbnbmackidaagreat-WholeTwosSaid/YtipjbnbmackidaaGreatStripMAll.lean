/-
  Blocks that a region makes which draws its order. Written by wip/tool/genbit.py. Conditions: those that each theorem names.
  Strips of words as two's complement: what they count. Conditions: those that each theorem names.
-/
import Derived.Test.YtipjbnbmackidaaGreatLawRingAll
import Derived.Test.YtipjbnbmackidaaGreatMath
namespace Go.Proofs.YtipjbnbmackidaaGreat
open Go.RowKit

theorem sl_al {D w' : World} (h : Below D.heap.size D w') (o : Obj) : Below D.heap.size D (w'.alloc o) := h.alloc h.size o
theorem sl_dr {B : Nat} {D w' : World} (h : Below B D w') : Below B D w'.drew := h.trans (below_drewN w' 1 B)
theorem sl_st {D w' : World} {p : Addr} (h : Below D.heap.size D w') (hp : D.heap.size ≤ p.block) (v : Value) : Below D.heap.size D (w'.setCell p v) := h.setCell hp v
theorem sl_via {W wd : World} (h : Below W.heap.size W wd) {g : Nat} {o : Obj} (r : W.heap[g]? = some o) : wd.heap[g]? = some o := (h.block _ (lt_of_block r)).trans r
theorem sl_set2 {w : World} {y : Nat} {v : Value} {n : Int} (a b : Value) (h : IsI w v n) (row : w.heap[y]? = some (.cells #[.bool false, .slice none 0 0] 25 (0, 0))) : IsI ((w.setCell ⟨y, 0, none⟩ a).setCell ⟨y, 1, none⟩ b) v n := by
  obtain ⟨u, e, hu⟩ := h
  exact ⟨u, e, at_ibox a b hu row⟩
theorem sl_row2 {w : World} {y z : Nat} {o : Obj} (a b : Value) (hne : ¬ z = y) (row : w.heap[z]? = some o) : ((w.setCell ⟨y, 0, none⟩ a).setCell ⟨y, 1, none⟩ b).heap[z]? = some o := by
  rw [Below.heap_setCell _ ⟨y, 1, none⟩ _ _ hne, Below.heap_setCell _ ⟨y, 0, none⟩ _ _ hne]; exact row
theorem sl_size2 (w : World) (y : Nat) (a b : Value) : ((w.setCell ⟨y, 0, none⟩ a).setCell ⟨y, 1, none⟩ b).heap.size = w.heap.size := by simp
theorem sl_f1 {w : World} {s : Bool} {p : Option Addr} {l c : Nat} {n : Int} (o : Obj) (h : IsI w (Value.agg #[.bool s, .slice p l c]) n) : Kept ((w.alloc o).alloc (.cells #[.bool s, .slice p l c] 25)) (w.heap.size + 1) s p l c n := ⟨heap_alloc2_new w _ _, h.below (two_new w _ _)⟩
theorem sl_f2 {w : World} {s : Bool} {p : Option Addr} {l c : Nat} {n : Int} (o : Obj) (h : IsI w (Value.agg #[.bool s, .slice p l c]) n) : Kept ((w.alloc (.cells #[.bool s, .slice p l c] 25)).alloc o) w.heap.size s p l c n := ⟨heap_alloc2_old w _ _, h.below (two_new w _ _)⟩
theorem sl_f3 {w : World} {y : Nat} {s : Bool} {p : Option Addr} {l c : Nat} {n : Int} (a b : Value) (h : IsI w (Value.agg #[.bool s, .slice p l c]) n) (row : w.heap[y]? = some (.cells #[.bool false, .slice none 0 0] 25 (0, 0))) : Kept (((w.setCell ⟨y, 0, none⟩ a).setCell ⟨y, 1, none⟩ b).alloc (.cells #[.bool s, .slice p l c] 25)) w.heap.size s p l c n :=
  ⟨al_at _ _ (sl_size2 w y a b), (sl_set2 a b h row).below (below_one _ _)⟩
theorem sl_f4 {w : World} {y z : Nat} {s : Bool} {p : Option Addr} {l c : Nat} {n : Int} (a b : Value) (h : IsI w (Value.agg #[.bool s, .slice p l c]) n) (ry : w.heap[y]? = some (.cells #[.bool false, .slice none 0 0] 25 (0, 0))) (rz : w.heap[z]? = some (.cells #[.bool false, .slice none 0 0] 25 (0, 0))) (hne : ¬ z = y) : Kept ((((w.setCell ⟨y, 0, none⟩ a).setCell ⟨y, 1, none⟩ b).setCell ⟨z, 0, none⟩ (.bool s)).setCell ⟨z, 1, none⟩ (.slice p l c)) z s p l c n :=
  ⟨ibox_set _ _ (sl_row2 a b hne rz), sl_set2 _ _ (sl_set2 a b h ry) (sl_row2 a b hne rz)⟩
theorem sl_f5 {w : World} {z : Nat} {s : Bool} {p : Option Addr} {l c : Nat} {n : Int} (o : Obj) (h : IsI w (Value.agg #[.bool s, .slice p l c]) n) (rz : w.heap[z]? = some (.cells #[.bool false, .slice none 0 0] 25 (0, 0))) : Kept (((w.setCell ⟨z, 0, none⟩ (.bool s)).setCell ⟨z, 1, none⟩ (.slice p l c)).alloc o) z s p l c n :=
  ⟨al_keep _ _ (by rw [sl_size2]; exact lt_of_block rz) (ibox_set _ _ rz), (sl_set2 _ _ h rz).below (below_one _ _)⟩
theorem sl_div (va vb : Value) (a b h : Int) (how : Nat) (hh : h = (how : Int)) (w : World) (ha : IsI w va a) (hb : IsI w vb b) (la : (Nl.limbs a.natAbs).length ≤ 900) (lb : (Nl.limbs b.natAbs).length ≤ 900) (hb0 : b ≠ 0) (h1 : 1 ≤ how) (h4 : how ≤ 4) :
    Calls Tryz.prog 39 #[va, vb, .int .i64 h] w fun e w' => (∃ s p l c s' p' l' c', e = .returned (.tuple #[.agg #[.bool s, .slice p l c], .agg #[.bool s', .slice p' l' c'], .int .i64 0]) ∧ IsI w' (.agg #[.bool s, .slice p l c]) (divQ how a b) ∧ IsI w' (.agg #[.bool s', .slice p' l' c']) (divR how a b)) ∧ Below w.heap.size w w' :=
  hh ▸ wDivN va vb a b how w ha hb la lb hb0 h1 h4
end Go.Proofs.YtipjbnbmackidaaGreat

namespace Go.Proofs.YtipjbnbmackidaaGreat.Nl

theorem val_put (xs : List Nat) (k y : Nat) (h : k < xs.length) : val (xs.set k y) + 4294967296 ^ k * xs.getD k 0 = val xs + 4294967296 ^ k * y := by
  induction xs generalizing k with
  | nil => simp at h
  | cons x xs ih =>
    cases k with
    | zero => simp; omega
    | succ k =>
      have := ih k (by simpa using h)
      simp only [List.set_cons_succ, val_cons, List.getD_cons_succ, Nat.pow_succ]
      have e1 : 4294967296 ^ k * 4294967296 * xs.getD k 0 = 4294967296 * (4294967296 ^ k * xs.getD k 0) := by
        rw [Nat.mul_comm (4294967296 ^ k) 4294967296, Nat.mul_assoc]
      have e2 : 4294967296 ^ k * 4294967296 * y = 4294967296 * (4294967296 ^ k * y) := by
        rw [Nat.mul_comm (4294967296 ^ k) 4294967296, Nat.mul_assoc]
      rw [e1, e2]
      omega

/-- one step of the opposite strip -/
theorem neg_step {Z xs : List Nat} {k c s d : Nat} (hl : Z.length = xs.length) (hk : k < xs.length) (hv : val (Z.take k) + 4294967296 ^ k * c + val (xs.take k) = 4294967296 ^ k) (hx : xs.getD k 0 < 4294967296)
    (hs : s + 4294967296 * d = 4294967296 - 1 - xs.getD k 0 + c) :
    val ((Z.set k s).take (k + 1)) + 4294967296 ^ (k + 1) * d + val (xs.take (k + 1)) = 4294967296 ^ (k + 1) := by
  rw [val_take_set Z k s (by omega), val_take_succ xs k hk, Nat.pow_succ]
  obtain ⟨P, hP⟩ : ∃ P, P = 4294967296 ^ k := ⟨_, rfl⟩
  obtain ⟨x, hx'⟩ : ∃ x, x = xs.getD k 0 := ⟨_, rfl⟩
  rw [← hP] at hv ⊢
  rw [← hx'] at hx hs ⊢
  have h1 : P * (s + 4294967296 * d) = P * (4294967296 - 1 - x + c) := by rw [hs]
  have h2 : P * s + P * 4294967296 * d = P * (4294967296 - 1 - x) + P * c := by rw [Nat.mul_add, Nat.mul_add] at h1; rw [Nat.mul_assoc]; exact h1
  have h3 : P * (4294967296 - 1 - x) + P * x + P = P * 4294967296 := by
    rw [← Nat.mul_add, ← Nat.mul_succ]; congr 1; omega
  omega
theorem neg_end {Z xs : List Nat} {c : Nat} (hs : Small Z) (hl : Z.length = xs.length) (hv : val (Z.take xs.length) + 4294967296 ^ xs.length * c + val (xs.take xs.length) = 4294967296 ^ xs.length) : val Z = (4294967296 ^ xs.length - val xs) % 4294967296 ^ xs.length := by
  rw [val_take_all (Nat.le_of_eq hl), val_take_all (Nat.le_refl _)] at hv
  have h1 := val_lt hs
  rw [hl] at h1
  obtain ⟨P, hP⟩ : ∃ P, P = 4294967296 ^ xs.length := ⟨_, rfl⟩
  rw [← hP] at hv h1 ⊢
  rcases Nat.eq_zero_or_pos c with rfl | hc
  · rw [Nat.mul_zero] at hv
    rw [show P - val xs = val Z by omega, Nat.mod_eq_of_lt h1]
  · have h2 : P * 1 ≤ P * c := Nat.mul_le_mul_left _ hc
    rw [show val Z = 0 by omega, show P - val xs = P by omega, Nat.mod_self]
/-- what the lowest words of an integer count -/
def low (a : Int) (P : Nat) : Nat := (a % (P : Int)).toNat
theorem low_eq (a : Int) (P : Nat) (hP : 0 < P) : ((low a P : Nat) : Int) = a % (P : Int) := by
  rw [low, Int.toNat_of_nonneg (Int.emod_nonneg _ (by omega))]
theorem low_lt (a : Int) (P : Nat) (hP : 0 < P) : low a P < P := by
  have h := Int.emod_lt_of_pos a (b := (P : Int)) (by omega)
  have h1 := low_eq a P hP
  omega
theorem low_of {a : Int} {P v : Nat} (hv : v < P) (q : Int) (h : a = (v : Int) + (P : Int) * q) : low a P = v := by
  rw [low, h, Int.add_mul_emod_self_left, Int.emod_eq_of_lt (by omega) (by omega)]; rfl
theorem low_pos (m P : Nat) (hP : 0 < P) : low (m : Int) P = m % P := low_of (Nat.mod_lt _ hP) ((m / P : Nat) : Int) (by
  have h := Nat.mod_add_div m P
  rw [← Int.natCast_mul, ← Int.natCast_add, h])
theorem low_neg (m P : Nat) (hP : 0 < P) : low (-(m : Int)) P = (P - m % P) % P := by
  have h := Nat.mod_add_div m P
  have h1 := Nat.mod_lt m hP
  obtain ⟨r, hr⟩ : ∃ r, r = m % P := ⟨_, rfl⟩
  obtain ⟨q, hq⟩ : ∃ q, q = m / P := ⟨_, rfl⟩
  rw [← hr, ← hq] at h
  rw [← hr] at h1 ⊢
  have h2 : (m : Int) = (r : Int) + (P : Int) * (q : Int) := by rw [← h, Int.natCast_add, Int.natCast_mul]
  by_cases h0 : r = 0
  · rw [h0, Nat.sub_zero, Nat.mod_self]
    exact low_of hP (-(q : Int)) (by rw [h2, h0, Int.mul_neg]; omega)
  · rw [Nat.mod_eq_of_lt (by omega)]
    refine low_of (by omega) (-(q : Int) - 1) ?_
    rw [h2, Int.mul_sub, Int.mul_neg, Int.mul_one, Int.ofNat_sub (by omega)]; omega
/-- what a strip means -/
def twos (P v : Nat) : Int := if 2 * v < P then (v : Int) else (v : Int) - (P : Int)
theorem strip_top {xs : List Nat} {n : Nat} (hs : Small xs) (hl : xs.length = n + 1) : (2147483648 ≤ xs.getD n 0 ↔ ¬ 2 * val xs < 4294967296 ^ (n + 1)) := by
  have h1 := val_take_succ xs n (by omega)
  rw [val_take_all (by omega : xs.length ≤ n + 1)] at h1
  have h2 := val_lt (hs.take n)
  rw [List.length_take, Nat.min_eq_left (by omega)] at h2
  rw [h1, Nat.pow_succ]
  obtain ⟨P, hP⟩ : ∃ P, P = 4294967296 ^ n := ⟨_, rfl⟩
  obtain ⟨x, hx⟩ : ∃ x, x = xs.getD n 0 := ⟨_, rfl⟩
  rw [← hP] at h2 ⊢
  rw [← hx]
  constructor
  · intro h
    have h3 : P * 2147483648 ≤ P * x := Nat.mul_le_mul_left _ h
    omega
  · intro h
    refine Nat.le_of_not_lt fun h4 => h ?_
    have h3 : P * (x + 1) ≤ P * 2147483648 := Nat.mul_le_mul_left _ (by omega)
    rw [Nat.mul_succ] at h3
    omega
theorem pow32 (k : Nat) : 4294967296 ^ k = 2 ^ (32 * k) := by rw [Nat.pow_mul]

theorem low_low (a : Int) (P Q : Nat) (hP : 0 < P) (hQ : 0 < Q) : low a (P * Q) % P = low a P := by
  have h1 := low_eq a (P * Q) (Nat.mul_pos hP hQ)
  have h2 := Nat.mod_add_div (low a (P * Q)) P
  refine (low_of (Nat.mod_lt _ hP) (((low a (P * Q) / P : Nat) : Int) + (Q : Int) * (a / ((P * Q : Nat) : Int))) ?_).symm
  have h3 := Int.emod_add_mul_ediv a ((P * Q : Nat) : Int)
  rw [← h1] at h3
  rw [Int.mul_add, ← Int.mul_assoc, ← Int.natCast_mul, ← Int.natCast_mul, ← Int.add_assoc, ← Int.natCast_add, h2]
  exact h3.symm
/-- the words of a strip below a bit -/
theorem cut_word {xs : List Nat} {k r : Nat} (hs : Small xs) (hl : xs.length = k + 1) :
    val (xs.set k (xs.getD k 0 % 2 ^ r)) = val xs % (4294967296 ^ k * 2 ^ r) := by
  have h1 := val_take_succ xs k (by omega)
  rw [val_take_all (by omega : xs.length ≤ k + 1)] at h1
  have h2 := val_lt (hs.take k)
  rw [List.length_take, Nat.min_eq_left (by omega)] at h2
  have h3 := val_take_set xs k (xs.getD k 0 % 2 ^ r) (by omega)
  rw [val_take_all (by rw [List.length_set]; omega)] at h3
  rw [h3, h1]
  obtain ⟨P, hP⟩ : ∃ P, P = 4294967296 ^ k := ⟨_, rfl⟩
  obtain ⟨x, hx⟩ : ∃ x, x = xs.getD k 0 := ⟨_, rfl⟩
  obtain ⟨T, hT⟩ : ∃ T, T = 2 ^ r := ⟨_, rfl⟩
  have hT0 : 0 < T := by rw [hT]; exact Nat.two_pow_pos r
  rw [← hP] at h2 ⊢
  rw [← hx, ← hT]
  rw [Nat.mod_mul, Nat.add_mul_mod_self_left, Nat.mod_eq_of_lt h2, Nat.add_mul_div_left _ _ (by omega : 0 < P), Nat.div_eq_of_lt h2, Nat.zero_add]
/-- a bit of a strip -/
theorem bit_word {xs : List Nat} {k r : Nat} (hs : Small xs) (hk : k < xs.length) : xs.getD k 0 / 2 ^ r % 2 = val xs / (4294967296 ^ k * 2 ^ r) % 2 ∨ 32 ≤ r := by
  by_cases hr : 32 ≤ r
  · exact .inr hr
  left
  have h1 := val_take_drop xs k (by omega)
  have h2 := val_lt (hs.take k)
  rw [List.length_take, Nat.min_eq_left (by omega)] at h2
  have h3 := val_drop_succ xs k hk
  rw [← h1, h3]
  obtain ⟨P, hP⟩ : ∃ P, P = 4294967296 ^ k := ⟨_, rfl⟩
  obtain ⟨x, hx⟩ : ∃ x, x = xs.getD k 0 := ⟨_, rfl⟩
  obtain ⟨y, hy⟩ : ∃ y, y = val (xs.drop (k + 1)) := ⟨_, rfl⟩
  rw [← hP] at h2 ⊢
  rw [← hx, ← hy, ← Nat.div_div_eq_div_mul, Nat.add_mul_div_left _ _ (by omega : 0 < P), Nat.div_eq_of_lt h2, Nat.zero_add]
  have h4 : (4294967296 : Nat) = 2 ^ r * 2 ^ (32 - r) := by rw [← Nat.pow_add, show r + (32 - r) = 32 by omega]
  have h5 : 2 ^ (32 - r) = 2 * 2 ^ (31 - r) := by rw [Nat.mul_comm, ← Nat.pow_succ]; congr 1; omega
  rw [h4, Nat.mul_assoc, Nat.add_mul_div_left _ _ (Nat.two_pow_pos r), h5, Nat.mul_assoc, Nat.add_mul_mod_self_left]
/-- an integer cut to some bits -/
def wrapI (a : Int) (n : Nat) (s : Bool) : Int := if s = true ∧ 2 ^ n ≤ 2 * low a (2 ^ n) then (low a (2 ^ n) : Int) - ((2 ^ n : Nat) : Int) else (low a (2 ^ n) : Int)
theorem wrap_split {k r : Nat} (hr : r < 32) : 4294967296 ^ (k + 1) = 2 ^ (32 * k + r) * 2 ^ (32 - r) := by
  rw [pow32, ← Nat.pow_add]; congr 1; omega
theorem wrap_low {a : Int} {xs : List Nat} {k r : Nat} (hr : r < 32) (hv : val xs = low a (4294967296 ^ (k + 1))) : val xs % 2 ^ (32 * k + r) = low a (2 ^ (32 * k + r)) := by
  rw [hv, wrap_split hr]; exact low_low a _ _ (Nat.two_pow_pos _) (Nat.two_pow_pos _)
theorem wrap_bit {a : Int} {xs : List Nat} {k r n : Nat} (hs : Small xs) (hl : xs.length = k + 1) (hr : r < 32) (hn : n + 1 = 32 * k + r) (hv : val xs = low a (4294967296 ^ (k + 1))) :
    (xs.getD (n / 32) 0 / 2 ^ (n % 32) % 2 = 1 ↔ 2 ^ (32 * k + r) ≤ 2 * low a (2 ^ (32 * k + r))) := by
  have h1 := wrap_low hr hv
  have h2 := (bit_word (k := n / 32) (r := n % 32) hs (by omega)).resolve_right (by omega)
  rw [h2, pow32, ← Nat.pow_add, show 32 * (n / 32) + n % 32 = n from Nat.div_add_mod n 32]
  rw [← h1, ← hn, Nat.pow_succ, ← Nat.mod_mul_right_div_self (val xs) (2 ^ n) 2]
  obtain ⟨m, hm⟩ : ∃ m, m = val xs % (2 ^ n * 2) := ⟨_, rfl⟩
  have h3 := Nat.mod_lt (val xs) (show 0 < 2 ^ n * 2 from Nat.mul_pos (Nat.two_pow_pos n) (by decide))
  rw [← hm] at h3 ⊢
  have h4 := Nat.two_pow_pos n
  obtain ⟨P, hP⟩ : ∃ P, P = 2 ^ n := ⟨_, rfl⟩
  rw [← hP] at h3 h4 ⊢
  rw [Nat.div_eq_iff h4]
  omega
theorem wrap_cut {a : Int} {xs : List Nat} {k r : Nat} (hs : Small xs) (hl : xs.length = k + 1) (hr : r < 32) (hv : val xs = low a (4294967296 ^ (k + 1))) :
    val (xs.set k (xs.getD k 0 % 2 ^ r)) = low a (2 ^ (32 * k + r)) := by
  rw [cut_word hs hl, pow32, ← Nat.pow_add]; exact wrap_low hr hv
theorem wrap_half {k r : Nat} (hr : r < 32) : 2 * 2 ^ (32 * k + r) ≤ 4294967296 ^ (k + 1) := by
  rw [pow32, Nat.mul_comm, ← Nat.pow_succ]; exact Nat.pow_le_pow_right (by decide) (by omega)
theorem wrap_plain {a : Int} {s : Bool} {k r : Nat} (hr : r < 32) (h : ¬ (s = true ∧ 2 ^ (32 * k + r) ≤ 2 * low a (2 ^ (32 * k + r)))) : twos (4294967296 ^ (k + 1)) (low a (2 ^ (32 * k + r))) = wrapI a (32 * k + r) s := by
  have h1 := low_lt a _ (Nat.two_pow_pos (32 * k + r))
  have h2 := wrap_half (k := k) hr
  rw [twos, wrapI, if_neg h, if_pos (by omega)]
theorem wrap_ones {a : Int} {s : Bool} {xs : List Nat} {k r : Nat} (hs : Small xs) (hl : xs.length = k + 1) (hr : r < 32) (hv : val xs = low a (4294967296 ^ (k + 1))) (h : s = true ∧ 2 ^ (32 * k + r) ≤ 2 * low a (2 ^ (32 * k + r))) :
    twos (4294967296 ^ (k + 1)) (val (xs.set k (xs.getD k 0 % 2 ^ r + (4294967296 - 2 ^ r)))) = wrapI a (32 * k + r) s := by
  have h1 := wrap_cut hs hl hr hv
  have h2 := val_put xs k (xs.getD k 0 % 2 ^ r) (by omega)
  have h3 := val_put xs k (xs.getD k 0 % 2 ^ r + (4294967296 - 2 ^ r)) (by omega)
  have h4 := low_lt a _ (Nat.two_pow_pos (32 * k + r))
  have h5 : 2 ^ r ≤ 4294967296 := Nat.le_trans (Nat.pow_le_pow_right (by decide) (by omega : r ≤ 32)) (by decide)
  have h6 : 4294967296 ^ k * 2 ^ r = 2 ^ (32 * k + r) := by rw [pow32, ← Nat.pow_add]
  have h7 : 4294967296 ^ k * (4294967296 - 2 ^ r) + 2 ^ (32 * k + r) = 4294967296 ^ (k + 1) := by
    rw [← h6, ← Nat.mul_add, Nat.sub_add_cancel h5, Nat.pow_succ]
  have h8 := wrap_half (k := k) hr
  rw [Nat.mul_add] at h3
  rw [h1] at h2
  have h9 := h.2
  rw [twos, wrapI, if_pos h]
  obtain ⟨T, hT⟩ : ∃ T, T = 2 ^ (32 * k + r) := ⟨_, rfl⟩
  obtain ⟨P, hP⟩ : ∃ P, P = 4294967296 ^ (k + 1) := ⟨_, rfl⟩
  obtain ⟨L, hL⟩ : ∃ L, L = low a (2 ^ (32 * k + r)) := ⟨_, rfl⟩
  rw [← hL, ← hT] at h9 h4
  rw [← hT, ← hP] at h7 h8
  rw [← hT] at hL
  rw [← hT, ← hP, ← hL]
  rw [← hT, ← hL] at h2
  obtain ⟨V, hV⟩ : ∃ V, V = val (xs.set k (xs.getD k 0 % 2 ^ r + (4294967296 - 2 ^ r))) := ⟨_, rfl⟩
  rw [← hV] at h3 ⊢
  rw [if_neg (by omega)]; omega
/-- cut integers differ by a multiple, and lie between bounds -/
theorem wrapI_mod (a : Int) (n : Nat) (s : Bool) : ∃ q, a = wrapI a n s + ((2 ^ n : Nat) : Int) * q := by
  have h1 := low_eq a _ (Nat.two_pow_pos n)
  have h2 := Int.emod_add_mul_ediv a ((2 ^ n : Nat) : Int)
  rw [← h1] at h2
  rw [wrapI]
  split
  · exact ⟨a / ((2 ^ n : Nat) : Int) + 1, by rw [Int.mul_add, Int.mul_one]; omega⟩
  · exact ⟨_, h2.symm⟩
theorem wrapI_low {a b : Int} (n : Nat) (s : Bool) (q : Int) (h : a = b + ((2 ^ n : Nat) : Int) * q) : wrapI a n s = wrapI b n s := by
  have h1 : low a (2 ^ n) = low b (2 ^ n) := by rw [low, low, h, Int.add_mul_emod_self_left]
  rw [wrapI, wrapI, h1]
theorem wrapI_bounds (a : Int) (n : Nat) (s : Bool) : (s = false → 0 ≤ wrapI a n s ∧ wrapI a n s < ((2 ^ n : Nat) : Int)) ∧ (s = true → 2 * wrapI a n s < ((2 ^ n : Nat) : Int) ∧ -((2 ^ n : Nat) : Int) ≤ 2 * wrapI a n s) := by
  have h1 := low_lt a _ (Nat.two_pow_pos n)
  obtain ⟨P, hP⟩ : ∃ P, P = 2 ^ n := ⟨_, rfl⟩
  rw [wrapI]
  rw [← hP] at h1 ⊢
  constructor
  · intro hs; rw [if_neg (by rw [hs]; exact fun h => Bool.noConfusion h.1)]; omega
  · intro hs
    by_cases h : P ≤ 2 * low a P
    · rw [if_pos ⟨hs, h⟩]; omega
    · rw [if_neg (fun g => h g.2)]; omega
theorem wrapI_size (a : Int) (n : Nat) (s : Bool) : (wrapI a n s).natAbs ≤ 2 ^ n := by
  have h := wrapI_bounds a n s
  obtain ⟨P, hP⟩ : ∃ P, P = 2 ^ n := ⟨_, rfl⟩
  rw [← hP] at h ⊢
  cases s
  · have := h.1 rfl; omega
  · have := h.2 rfl; omega
end Go.Proofs.YtipjbnbmackidaaGreat.Nl
