/-
  Where a number lies in memory. Conditions: those that each theorem names.
  What must and trimmed do. What bits.Add32, Sub32, cmp.Compare, wordOf and fromUint do. Conditions: those that each theorem names.
  What compare does. Conditions: those that each theorem names.
-/
import Derived.Test.YtkbghamkalidcaaGreatMath
import Derived.Test.YtkbghamkalidcaaGreatProg
import Derived.WalkKit
import Derived.OneCell
import Derived.Deep.Draws
import Derived.Deep.QuietTactic
import Derived.BigQuiet
import Derived.WalkSmall
import Derived.Lib.Hide
import Derived.Laws.CopyOwn
import Derived.Outline
import Derived.WalkSpells
import Derived.WalkLawsBesides
namespace Go.Proofs.YtkbghamkalidcaaGreat
open Go.RowKit

/-- the cells of a block from 'off' on read xs -/
def Cells (w : World) (b off : Nat) (xs : List Nat) : Prop := ∀ i, i < xs.length → w.cell? ⟨b, off + i, none⟩ = some (.int .u32 ((xs.getD i 0 : Nat) : Int))

/-- v is a slice that reads xs; its block is one that p allows -/
def AtP (p : Nat → Prop) (w : World) (v : Value) (xs : List Nat) : Prop :=
  (v = .slice none 0 0 ∧ xs = []) ∨ ∃ b off cap, v = .slice (some ⟨b, off, none⟩) xs.length cap ∧ p b ∧ xs.length ≤ cap ∧ cap ≤ 9223372036854775807 ∧ b < w.heap.size ∧ Cells w b off xs
abbrev At (w : World) (v : Value) (xs : List Nat) : Prop := AtP (fun _ => True) w v xs

theorem Cells.below {w w' : World} {B b off : Nat} {xs : List Nat} (h : Cells w b off xs) (hb : Below B w w') (hB : b < B) : Cells w' b off xs :=
  fun i hi => (hb.cell (p := ⟨b, off + i, none⟩) hB).trans (h i hi)
theorem AtP.below {p : Nat → Prop} {w w' : World} {v : Value} {xs : List Nat} (h : AtP p w v xs) (hb : Below w.heap.size w w') : AtP p w' v xs := by
  rcases h with h | ⟨b, off, cap, h1, h2, h3, h4, h5, h6⟩
  · exact .inl h
  · exact .inr ⟨b, off, cap, h1, h2, h3, h4, Nat.lt_of_lt_of_le h5 hb.size, h6.below hb h5⟩
theorem AtP.mono {p q : Nat → Prop} {w : World} {v : Value} {xs : List Nat} (h : AtP p w v xs) (hpq : ∀ b, b < w.heap.size → p b → q b) : AtP q w v xs := by
  rcases h with h | ⟨b, off, cap, h1, h2, h3, h4, h5, h6⟩
  · exact .inl h
  · exact .inr ⟨b, off, cap, h1, hpq b h5 h2, h3, h4, h5, h6⟩
theorem AtP.at {p : Nat → Prop} {w : World} {v : Value} {xs : List Nat} (h : AtP p w v xs) : At w v xs := h.mono fun _ _ _ => trivial

theorem AtP.form {p : Nat → Prop} {w : World} {v : Value} {xs : List Nat} (h : AtP p w v xs) :
    ∃ a cap, v = .slice a xs.length cap ∧ (xs = [] ∨ ∃ b off, a = some ⟨b, off, none⟩ ∧ p b ∧ xs.length ≤ cap ∧ cap ≤ 9223372036854775807 ∧ b < w.heap.size ∧ Cells w b off xs) := by
  rcases h with ⟨rfl, rfl⟩ | ⟨b, off, cap, h1, h2⟩
  · exact ⟨none, 0, rfl, .inl rfl⟩
  · exact ⟨_, _, h1, .inr ⟨b, off, rfl, h2⟩⟩
/-- a length that a slice has -/
theorem AtP.short {p : Nat → Prop} {w : World} {v : Value} {xs : List Nat} (h : AtP p w v xs) : xs.length ≤ 9223372036854775807 := by
  rcases h with ⟨_, rfl⟩ | ⟨b, off, cap, _, _, h3, h4, _⟩
  · simp
  · omega
theorem drewN_drewN (w : World) (a b : Nat) : (w.drewN a).drewN b = w.drewN (a + b) := by simp [World.drewN, Nat.add_assoc]
theorem below_drewN (w : World) (n B : Nat) : Below B w (w.drewN n) := ⟨rfl, rfl, rfl, Nat.le_refl _, fun _ _ => rfl⟩

/-- words as values -/
def vals (L : List Nat) : List Value := L.map fun x : Nat => Value.int .u32 (x : Int)
/-- block g, all of it, holds the words L; it may be written -/
def Row (w : World) (g : Nat) (L : List Nat) : Prop := w.heap[g]? = some (.cells (vals L).toArray 80 (0, 0))

theorem vals_length (L : List Nat) : (vals L).length = L.length := by simp [vals]
theorem vals_get {L : List Nat} {i : Nat} (h : i < L.length) : (vals L)[i]? = some (.int .u32 ((L.getD i 0 : Nat) : Int)) := by simp [vals, h]
theorem Row.cell {w : World} {g : Nat} {L : List Nat} (h : Row w g L) {i : Nat} (hi : i < L.length) : w.cell? ⟨g, i, none⟩ = some (.int .u32 ((L.getD i 0 : Nat) : Int)) := by
  rw [cell_of_row w g i _ _ _ h]; simpa using vals_get hi
theorem Row.free {w : World} {g : Nat} {L : List Nat} (h : Row w g L) (i : Nat) : w.frozen? ⟨g, i, none⟩ = false := frozen_of_row w g i _ _ h
theorem Row.lt {w : World} {g : Nat} {L : List Nat} (h : Row w g L) : g < w.heap.size := lt_of_block h
theorem Row.set {w : World} {g : Nat} {L : List Nat} (h : Row w g L) (i y : Nat) : Row (w.setCell ⟨g, i, none⟩ (.int .u32 (y : Int))) g (L.set i y) := by
  have := heap_setCell_same w g i _ _ (.int .u32 (y : Int)) h
  unfold Row; rw [this]
  simp [vals, List.map_set]
theorem Row.kept {w w' : World} {g : Nat} {L : List Nat} {r : Option Nat} (h : Row w g L) (hg : w.grownBy w' r) (hr : r ≠ some g) : Row w' g L := by
  have := hg.block g h.lt (fun e => hr e.symm)
  unfold Row; rw [this]; exact h
theorem Row.below {w w' : World} {g B : Nat} {L : List Nat} (h : Row w g L) (hb : Below B w w') (hB : g < B) : Row w' g L := by
  unfold Row; rw [hb.block g hB]; exact h
theorem Row.cells {w : World} {g : Nat} {L : List Nat} (h : Row w g L) {off : Nat} {xs : List Nat} (hx : ∀ i, i < xs.length → off + i < L.length ∧ L.getD (off + i) 0 = xs.getD i 0) : Cells w g off xs := by
  intro i hi
  obtain ⟨h1, h2⟩ := hx i hi
  rw [h.cell h1, h2]
theorem Row.inj {w : World} {g : Nat} {L M : List Nat} (h : Row w g L) (k : Row w g M) : L = M := by
  have e : (vals L).toArray = (vals M).toArray := by
    have := h.symm.trans k
    simpa using this
  have e2 : vals L = vals M := by simpa using congrArg Array.toList e
  have hi : Function.Injective (fun x : Nat => Value.int .u32 (x : Int)) := by
    intro a b hab; simp at hab; omega
  exact (List.map_inj_right (fun a b hab => hi hab)).1 e2

/-- only block g has changed; there may be new blocks -/
abbrev Only (g : Nat) (w w' : World) : Prop := w.grownBy w' (some g)
theorem Only.refl (g : Nat) (w : World) : Only g w w := World.grownBy.refl w _
theorem Only.setCell (g i : Nat) (v : Value) (w : World) : Only g w (w.setCell ⟨g, i, none⟩ v) :=
  ⟨rfl, rfl, rfl, by simp [World.setCell], fun k _ hne => Below.heap_setCell _ _ _ _ (fun e => hne (by simp [e]))⟩
theorem grown_trans {a b c : World} {r : Option Nat} (h : a.grownBy b r) (k : b.grownBy c r) : a.grownBy c r :=
  ⟨k.os.trans h.os, k.tape.trans h.tape, k.output.trans h.output, Nat.le_trans h.size k.size, fun i hi hn => (k.block i (Nat.lt_of_lt_of_le hi h.size) hn).trans (h.block i hi hn)⟩
theorem grown_of_below {a b : World} {r : Option Nat} (h : Below a.heap.size a b) : a.grownBy b r := ⟨h.os, h.tape, h.output, h.size, fun k hk _ => h.block k hk⟩
theorem below_of_only {a b c : World} {g B : Nat} (h : Below B a b) (k : Only g b c) (hg : B ≤ g) (hB : B ≤ b.heap.size) : Below B a c :=
  h.grown k hB (fun j hj => by cases hj; exact hg)
theorem AtP.only {p : Nat → Prop} {w w' : World} {v : Value} {xs : List Nat} {g : Nat} (h : AtP p w v xs) (hg : Only g w w') (hp : ∀ b, p b → b ≠ g) : AtP p w' v xs := by
  rcases h with h | ⟨b, off, cap, h1, h2, h3, h4, h5, h6⟩
  · exact .inl h
  · refine .inr ⟨b, off, cap, h1, h2, h3, h4, Nat.lt_of_lt_of_le h5 hg.size, fun i hi => ?_⟩
    exact hg.cell (h6 i hi) (by simpa using hp b h2)

/-- v is a slice from the head of a block that the call itself made: it reads xs -/
def Own (base : Nat) (w : World) (v : Value) (xs : List Nat) : Prop :=
  (v = .slice none 0 0 ∧ xs = []) ∨ ∃ g L, v = .slice (some ⟨g, 0, none⟩) xs.length L.length ∧ base ≤ g ∧ Row w g L ∧ L.take xs.length = xs ∧ xs.length ≤ L.length ∧ L.length ≤ 9223372036854775807

theorem Own.at {base : Nat} {w : World} {v : Value} {xs : List Nat} (h : Own base w v xs) : AtP (base ≤ ·) w v xs := by
  rcases h with h | ⟨g, L, h1, h2, h3, h4, h5, h6⟩
  · exact .inl h
  · refine .inr ⟨g, 0, L.length, h1, h2, h5, h6, h3.lt, h3.cells fun i hi => ⟨by omega, ?_⟩⟩
    conv => rhs; rw [← h4]
    simp [hi]
theorem Own.below {base : Nat} {w w' : World} {v : Value} {xs : List Nat} (h : Own base w v xs) (hb : Below w.heap.size w w') : Own base w' v xs := by
  rcases h with h | ⟨g, L, h1, h2, h3, h4, h5, h6⟩
  · exact .inl h
  · exact .inr ⟨g, L, h1, h2, h3.below hb h3.lt, h4, h5, h6⟩
theorem Own.mono {base base' : Nat} {w : World} {v : Value} {xs : List Nat} (h : Own base w v xs) (hb : base' ≤ base) : Own base' w v xs := by
  rcases h with h | ⟨g, L, h1, h2, h3⟩
  · exact .inl h
  · exact .inr ⟨g, L, h1, Nat.le_trans hb h2, h3⟩
theorem Own.trim {base : Nat} {w : World} {g : Nat} {L : List Nat} (hb : base ≤ g) (hr : Row w g L) (hl : L.length ≤ 9223372036854775807) :
    Own base w (.slice (some ⟨g, 0, none⟩) (Nl.trim L).length L.length) (Nl.trim L) :=
  .inr ⟨g, L, rfl, hb, hr, (Nl.trim_prefix L).symm, Nl.trim_length L, hl⟩

theorem made_zero (n : Nat) : madeCells (Value.int .u32 0).cells (n * 1) = (vals (Nl.zeros n)).toArray := by
  apply Array.ext
  · simp [madeCells, vals, Nl.zeros]
  · intro i h1 h2
    simp [madeCells, vals, Nl.zeros, Value.cells, Nat.mod_one]
theorem infoWord : (Tryz.prog.info? 80).map (fun i => (i.zero, i.size, i.bytes)) = some (some (.int .u32 0), 1, 4) := by kernel_rfl
theorem sizeWord : (Tryz.prog.info? 80).map (·.size) = some 1 := by kernel_rfl
theorem make_words (t : TypeId) (ht : Tryz.prog.underlying t = some (.slice 80)) (w : World) (c : Int) (n : Nat) (hc : c = n) (h : n ≤ 70368744177664) :
    (Instr.makeSlice t (.int .i64 c) (.int .i64 c)).run Tryz.prog w = .ok (.slice (some ⟨w.heap.size, 0, none⟩) n n) (w.alloc (.cells (vals (Nl.zeros n)).toArray 80)) := by
  subst hc
  obtain ⟨i0, hi, hz0, hz1, hz2⟩ := info_parts infoWord
  have := run_make (P := Tryz.prog) w t 80 i0 (.int .u32 0) ht hi hz0 .i64 .i64 n n (by omega) (by omega) (by rw [hz2]; omega) (by omega)
  rw [this, hz1]
  simp only [Int.toNat_natCast]
  rw [made_zero]
theorem row_new (w : World) (L : List Nat) : Row (w.alloc (.cells (vals L).toArray 80)) w.heap.size L := heap_alloc_new w _

theorem splice_map (L xs : List Nat) (off : Nat) : splice (vals L) off (vals xs) = vals (splice L off xs) := by
  simp [splice, vals]
theorem length_splice' (L xs : List Nat) (off : Nat) (h : off + xs.length ≤ L.length) : (splice L off xs).length = L.length := length_splice L off xs h

/-- 'copy' of words -/
theorem wp_copy {w : World} {ops : Array Oper} {rest : List Oper} {o : Oper} {a : Act} {Q : Exit → Act → World → Prop} (hgd : o.guard = none) (d s : Operand) (dT sT : TypeId)
    (ho : o.op = .call { callee := .builtin .copy, args := #[d, s], argTypes := #[dT, sT] }) (hu : Tryz.prog.underlying dT = some (.slice 80))
    (dp sp : Option Addr) (dLen dCap sLen sCap : Nat) (hd : a.eval d = .slice dp dLen dCap) (hs : a.eval s = .slice sp sLen sCap)
    (g off : Nat) (L xs : List Nat) (hg : Row w g L) (hn : xs.length = Nat.min sLen dLen)
    (hpos : 0 < xs.length → dp = some ⟨g, off, none⟩ ∧ ∃ b f, sp = some ⟨b, f, none⟩ ∧ Cells w b f xs)
    (hfit : off + xs.length ≤ L.length) (B : Nat) (w0 : World) (hb : Below B w0 w) (hBg : B ≤ g)
    (h : ∀ w', Hid (Row w' g (splice L off xs)) → Below B w0 w' → wpList Tryz.prog ops Q rest (a.put o.dst (goInt (vals xs).length)) w') :
    wpList Tryz.prog ops Q (o :: rest) a w := by
  refine wpList_copy_splice hgd d s dT sT ho 80 hu sizeWord dp sp dLen dCap sLen sCap hd hs g off (vals L) 80 hg (vals xs) (by rw [vals_length]; exact hn) ?_ (by rw [vals_length, vals_length]; exact hfit) ?_ B w0 hb hBg ?_
  · intro h0
    rw [vals_length] at h0
    obtain ⟨h1, b, f, rfl, hc⟩ := hpos h0
    refine ⟨h1, _, rfl, fun j v hj => ?_⟩
    have hjl : j < xs.length := by
      have := (List.getElem?_eq_some_iff.1 hj).1
      rwa [vals_length] at this
    rw [vals_get hjl] at hj
    cases hj
    have := hc j hjl
    unfold Addr.add
    split
    · next h0 => subst h0; exact this
    · exact this
  · intro v hv
    obtain ⟨x, _, rfl⟩ := List.mem_map.1 hv
    rfl
  · intro w' hr hb'
    refine h w' ?_ hb'
    have := hr.out
    rw [splice_map] at this
    exact this
end Go.Proofs.YtkbghamkalidcaaGreat

namespace Go.Proofs.YtkbghamkalidcaaGreat
open Go.RowKit

theorem must_yes (e : Int) (w : World) : Calls Tryz.prog 55 #[.bool true, .int .i64 e] w fun e w' => e = .returned (.tuple #[]) ∧ w = w' := by
  go_enter Tryz.func55, Tryz.ntmps55
  go_wp2
  go_end0
  exact ⟨rfl, rfl⟩
theorem failAt_any (e a : Int) (w : World) : Calls Tryz.prog 118 #[.int .i64 e, .int .i64 a] w fun x w' => x = .panicked [{ v := .iface 177 (.agg #[.int .i64 e, .int .i64 a]), recovered := false }] ∧ w = w' := by
  go_enter Tryz.func118, Tryz.ntmps118
  go_wp2
  exact ⟨rfl, rfl, rfl⟩
theorem must_no (e : Int) (w : World) : Calls Tryz.prog 55 #[.bool false, .int .i64 e] w fun x w' => x = .panicked [{ v := .iface 177 (.agg #[.int .i64 e, .int .i64 0]), recovered := false }] ∧ w = w' := by
  go_enter Tryz.func55, Tryz.ntmps55
  go_wp2_with (go_at_call 118; refine (failAt_any _ _ _).mono ?_; rintro e w' ⟨rfl, rfl⟩)
  exact ⟨rfl, rfl, rfl⟩

theorem trimmed_cells (b off cap : Nat) (xs : List Nat) (w : World) (h : Cells w b off xs) (hc : xs.length ≤ cap) (hm : cap ≤ 9223372036854775807) :
    Calls Tryz.prog 216 #[.slice (some ⟨b, off, none⟩) xs.length cap] w fun e w' => e = .returned (.slice (some ⟨b, off, none⟩) (Nl.trim xs).length cap) ∧ w = w' := by
  go_enter Tryz.func216, Tryz.ntmps216
  go_wp2
  go_loop [3] (fun n => ∃ k : Nat, k ≤ xs.length ∧ n = .int .i64 k ∧ Hid (Nl.trim (xs.take k) = Nl.trim xs)) (fun n => (intOf n).toNat)
  case atStart => exact ⟨xs.length, Nat.le_refl _, rfl, by simp [Hid]⟩
  case round =>
    obtain ⟨k, hk, rfl, ht⟩ := hrel
    cases k with
    | zero =>
      go_wp2
      go_ret
      have := ht.out
      rw [List.take_zero] at this
      rw [← this]
      exact ⟨rfl, rfl⟩
    | succ k =>
      obtain ⟨x, hx⟩ : ∃ x, x = xs.getD k 0 := ⟨_, rfl⟩
      have hcell := h k (by omega)
      rw [← hx] at hcell
      have Hx := Lib.hid hx
      clear hx
      by_cases hz : x = 0
      · have hz1 : ((x : Int) == 0) = true := by rw [beq_iff_eq]; omega
        have HZ := Lib.hid hz
        clear hz
        go_wp2
        go_round
        case rel => exact ⟨k, by omega, by go_num, by rw [Hid, ← Nl.trim_take_zero (by omega) (by rw [← Hx.out, HZ.out])]; exact ht.out⟩
        case measure => simp [intOf] <;> omega
      · have hz1 : ((x : Int) == 0) = false := by rw [beq_eq_false_iff_ne]; omega
        go_wp2
        go_ret
        rw [← ht.out, Nl.trim_take_some (by omega) (by rw [← Hx.out]; exact hz)]
        exact ⟨rfl, rfl⟩


theorem ret_int {k : IntKind} {a b : Int} (h : a = b) : Ending.returned (.int k a) = .returned (.int k b) := by rw [h]
theorem ret_two {k l : IntKind} {a b c d : Int} (h : a = b) (h' : c = d) : Ending.returned (.tuple #[.int k a, .int l c]) = .returned (.tuple #[.int k b, .int l d]) := by rw [h, h']
theorem ret_bool {a b : Bool} (h : a = b) : Ending.returned (.bool a) = .returned (.bool b) := by rw [h]
def cmpI (a b : Int) : Int := if a < b then -1 else if b < a then 1 else 0

theorem isNaN_int (a : Int) (w : World) : Calls Tryz.prog 257 #[.int .i64 a] w fun e w' => e = .returned (.bool false) ∧ w = w' := by
  have h : (a != a) = false := by simp
  go_enter Tryz.func257, Tryz.ntmps257
  go_wp2
  go_ret
  exact ⟨by first | rfl | simp, rfl⟩
theorem isNaN_u32 (a : Int) (w : World) : Calls Tryz.prog 258 #[.int .u32 a] w fun e w' => e = .returned (.bool false) ∧ w = w' := by
  go_enter Tryz.func258, Tryz.ntmps258
  go_wp2
  go_ret
  exact ⟨by first | rfl | simp, rfl⟩

theorem compare_int (a b : Int) (w : World) : Calls Tryz.prog 229 #[.int .i64 a, .int .i64 b] w fun e w' => e = .returned (.int .i64 (cmpI a b)) ∧ w = w' := by
  go_enter Tryz.func229, Tryz.ntmps229
  go_wp2_with (go_at_call 257; refine (isNaN_int _ _).mono ?_; rintro e w' ⟨rfl, rfl⟩)
  all_goals go_ret
  · have h : a < b := by assumption
    exact ⟨ret_int (by rw [cmpI, if_pos h]), rfl⟩
  · have h : b ≤ a := by assumption
    have h2 : b < a := by assumption
    exact ⟨ret_int (by rw [cmpI, if_neg (by omega), if_pos h2]), rfl⟩
  · have h : b ≤ a := by assumption
    have h2 : a ≤ b := by assumption
    exact ⟨ret_int (by rw [cmpI, if_neg (by omega), if_neg (by omega)]), rfl⟩
theorem compare_u32 (a b : Int) (w : World) : Calls Tryz.prog 230 #[.int .u32 a, .int .u32 b] w fun e w' => e = .returned (.int .i64 (cmpI a b)) ∧ w = w' := by
  go_enter Tryz.func230, Tryz.ntmps230
  go_wp2_with (go_at_call 258; refine (isNaN_u32 _ _).mono ?_; rintro e w' ⟨rfl, rfl⟩)
  all_goals go_ret
  · have h : a < b := by assumption
    exact ⟨ret_int (by rw [cmpI, if_pos h]), rfl⟩
  · have h : b ≤ a := by assumption
    have h2 : b < a := by assumption
    exact ⟨ret_int (by rw [cmpI, if_neg (by omega), if_pos h2]), rfl⟩
  · have h : b ≤ a := by assumption
    have h2 : a ≤ b := by assumption
    exact ⟨ret_int (by rw [cmpI, if_neg (by omega), if_neg (by omega)]), rfl⟩

theorem add32 (x y c : Nat) (hx : x < 4294967296) (hy : y < 4294967296) (hc : c < 4294967296) (w : World) :
    Calls Tryz.prog 219 #[.int .u32 x, .int .u32 y, .int .u32 c] w fun e w' => e = .returned (.tuple #[.int .u32 (((x + y + c) % 4294967296 : Nat) : Int), .int .u32 (((x + y + c) / 4294967296 : Nat) : Int)]) ∧ w = w' := by
  go_enter Tryz.func219, Tryz.ntmps219
  go_wp2
  go_ret2
  exact ⟨ret_two (by omega) (by omega), rfl⟩

/-- the borrow -/
def bor (x y c : Nat) : Nat := if x < y + c then 1 else 0
theorem bor_lt (x y c : Nat) : bor x y c < 2 := by unfold bor; split <;> omega
theorem bor_bits (x y c d : Nat) (hx : x < 4294967296) (hy : y < 4294967296) (hc : c < 2) (hd : d = (x + 4294967296 + 4294967296 - y - c) % 4294967296) :
    (((4294967295 ^^^ x) &&& y) ||| ((4294967295 ^^^ (x ^^^ y)) &&& d)) / 2147483648 = bor x y c := by
  have h31 : ∀ n : Nat, n / 2147483648 = n >>> 31 := fun n => by rw [Nat.shiftRight_eq_div_pow]
  have hd' : d < 4294967296 := by omega
  rw [h31, Nat.shiftRight_or_distrib, Nat.shiftRight_and_distrib, Nat.shiftRight_and_distrib, Nat.shiftRight_xor_distrib, Nat.shiftRight_xor_distrib, Nat.shiftRight_xor_distrib]
  simp only [← h31]
  obtain ⟨a, ha⟩ : ∃ a, a = x / 2147483648 := ⟨_, rfl⟩
  obtain ⟨b, hb⟩ : ∃ b, b = y / 2147483648 := ⟨_, rfl⟩
  obtain ⟨e, he⟩ : ∃ e, e = d / 2147483648 := ⟨_, rfl⟩
  rw [← ha, ← hb, ← he]
  have a2 : a = 0 ∨ a = 1 := by omega
  have b2 : b = 0 ∨ b = 1 := by omega
  have e2 : e = 0 ∨ e = 1 := by omega
  unfold bor
  rcases a2 with rfl | rfl <;> rcases b2 with rfl | rfl <;> rcases e2 with rfl | rfl <;> simp <;> omega

theorem sub32 (x y c : Nat) (hx : x < 4294967296) (hy : y < 4294967296) (hc : c < 2) (w : World) :
    Calls Tryz.prog 259 #[.int .u32 x, .int .u32 y, .int .u32 c] w fun e w' => e = .returned (.tuple #[.int .u32 (((x + 4294967296 + 4294967296 - y - c) % 4294967296 : Nat) : Int), .int .u32 ((bor x y c : Nat) : Int)]) ∧ w = w' := by
  go_enter Tryz.func259, Tryz.ntmps259
  go_wp2
  all_goals go_ret2
  all_goals refine ⟨ret_two (by omega) ?_, rfl⟩
  all_goals
    obtain ⟨d, hd⟩ : ∃ d : Nat, d = (x + 4294967296 + 4294967296 - y - c) % 4294967296 := ⟨_, rfl⟩
    have e1 : ((x : Int) - (y : Int) - (c : Int)) % 4294967296 = (d : Int) := by omega
    have em : IntKind.u32.max = ((4294967295 : Nat) : Int) := rfl
    have hxy : (x ^^^ y) < 4294967296 := Nat.xor_lt_two_pow (n := 32) hx hy
    have hnx : (4294967295 ^^^ x) < 4294967296 := Nat.xor_lt_two_pow (n := 32) (by decide) hx
    have hnxy : (4294967295 ^^^ (x ^^^ y)) < 4294967296 := Nat.xor_lt_two_pow (n := 32) (by decide) hxy
    have hd' : d < 4294967296 := by omega
    rw [e1, em, u32_xor_nat _ _ (by decide) hx, u32_xor_nat _ _ hx hy, u32_xor_nat _ _ (by decide) hxy, u32_and_nat _ _ hnx hy, u32_and_nat _ _ hnxy hd', u32_or_nat _ _ (Nat.and_lt_two_pow (n := 32) _ hy) (Nat.and_lt_two_pow (n := 32) _ hd'), ← bor_bits x y c d hx hy hc hd]
    omega
theorem wordOf_any (x : Nat) (w : World) : Calls Tryz.prog 232 #[.int .u32 x] w fun e w' => e = .returned (.slice (some ⟨w.heap.size, 0, none⟩) (Nl.trim [x]).length 1) ∧ w.alloc (.cells #[.int .u32 x] 80) = w' := by
  go_enter Tryz.func232, Tryz.ntmps232
  go_wp2_with fail
  refine (trimmed_cells w.heap.size 0 1 [x] _ ?_ (by simp) (by simp)).mono ?_
  · intro i hi
    match i, hi with
    | 0, _ => simp
  rintro e w' ⟨rfl, rfl⟩
  go_wp2
  go_ret
  exact ⟨rfl, rfl⟩
theorem fromUint_any (x : Nat) (w : World) (_hx : x < 18446744073709551616) : Calls Tryz.prog 163 #[.int .u64 x] w fun e w' => e = .returned (.slice (some ⟨w.heap.size, 0, none⟩) (Nl.trim [x % 4294967296, x / 4294967296]).length 2) ∧ w.alloc (.cells #[.int .u32 ((x % 4294967296 : Nat) : Int), .int .u32 ((x / 4294967296 : Nat) : Int)] 80) = w' := by
  go_enter Tryz.func163, Tryz.ntmps163
  go_wp2_with fail
  refine (trimmed_cells w.heap.size 0 2 [x % 4294967296, x / 4294967296] _ ?_ (by simp) (by simp)).mono ?_
  · intro i hi
    match i, hi with
    | 0, _ => simp
    | 1, _ => simp
  rintro e w' ⟨rfl, rfl⟩
  go_wp2
  go_ret
  exact ⟨rfl, rfl⟩
end Go.Proofs.YtkbghamkalidcaaGreat

namespace Go.Proofs.YtkbghamkalidcaaGreat
open Go.RowKit

theorem cmpI_lt {m n : Nat} (h : m < n) : cmpI m n = -1 := by rw [cmpI, if_pos (by omega)]
theorem cmpI_gt {m n : Nat} (h : n < m) : cmpI m n = 1 := by rw [cmpI, if_neg (by omega), if_pos (by omega)]
theorem cmpI_eq (m : Nat) : cmpI m m = 0 := by rw [cmpI, if_neg (by omega), if_neg (by omega)]

set_option maxHeartbeats 1000000 in
theorem compare_any (va vb : Value) (m n : Nat) (w : World) (ha : At w va (Nl.limbs m)) (hb : At w vb (Nl.limbs n)) :
    Calls Tryz.prog 194 #[va, vb] w fun e w' => e = .returned (.int .i64 (cmpI m n)) ∧ ∃ k, w' = w.drewN k := by
  have sa := ha.short
  have sb := hb.short
  obtain ⟨a, ca, rfl, fa⟩ := ha.form
  obtain ⟨b, cb, rfl, fb⟩ := hb.form
  clear ha hb
  by_cases hl : (Nl.limbs m).length = (Nl.limbs n).length
  · have hl1 : (((Nl.limbs m).length : Int) != ((Nl.limbs n).length : Int)) = false := by simp [hl]
    have HL := Lib.hid hl
    clear hl
    go_enter Tryz.func194, Tryz.ntmps194
    go_wp2
    go_loopw [5] (fun i wr => ∃ k : Nat, k ≤ (Nl.limbs m).length ∧ i = .int .i64 ((k : Int) - 1) ∧ Hid ((Nl.limbs m).drop k = (Nl.limbs n).drop k) ∧ Hid (∃ j, wr = w.drewN j)) (fun i _ => (intOf i + 1).toNat)
    case atStart => exact ⟨(Nl.limbs m).length, Nat.le_refl _, rfl, by simp [Hid, HL.out], ⟨0, rfl⟩⟩
    case round =>
      obtain ⟨k, hk, rfl, hd, hw⟩ := hrel
      obtain ⟨wo, hwo⟩ : ∃ wo, wo = w := ⟨_, rfl⟩
      cases k with
      | zero =>
        go_wp2
        go_ret
        have := hd.out
        rw [List.drop_zero, List.drop_zero] at this
        exact ⟨ret_int (by rw [Nl.limbs_inj this, cmpI_eq]), hw.out⟩
      | succ k =>
        rw [show ((k + 1 : Nat) : Int) - 1 = (k : Int) from by omega]
        obtain ⟨x, hx⟩ : ∃ x, x = (Nl.limbs m).getD k 0 := ⟨_, rfl⟩
        obtain ⟨y, hy⟩ : ∃ y, y = (Nl.limbs n).getD k 0 := ⟨_, rfl⟩
        rcases fa with fa | ⟨ba, oa, rfl, -, hca, -, hba, hcx⟩
        · rw [fa] at hk; simp at hk
        rcases fb with fb | ⟨bb, ob, rfl, -, hcb, -, hbb, hcy⟩
        · have := HL.out; rw [fb] at this; simp at this; rw [this] at hk; simp at hk
        have hkb : k < (Nl.limbs n).length := by have := HL.out; omega
        have c1 := hcx k (by omega)
        have c2 := hcy k hkb
        rw [← hx] at c1
        rw [← hy] at c2
        have c1' : wr.cell? ⟨ba, oa + k, none⟩ = some (.int .u32 (x : Int)) := by obtain ⟨q, rfl⟩ := hw.out; exact c1
        have c2' : wr.cell? ⟨bb, ob + k, none⟩ = some (.int .u32 (y : Int)) := by obtain ⟨q, rfl⟩ := hw.out; exact c2
        have Hx := Lib.hid hx
        have Hy := Lib.hid hy
        clear hx hy c1 c2 hcx hcy
        by_cases hxy : x = y
        · have e1 : ((x : Int) != (y : Int)) = false := by simp [hxy]
          have HE := Lib.hid hxy
          clear hxy
          go_wp2
          go_quiet (fail)
          go_wp2
          go_roundw
          case rel => 
            refine ⟨k, by omega, by go_num, ?_, ?_⟩
            · have h1 := hd.out
              have h2 := Hx.out
              have h3 := Hy.out
              have h4 := HE.out
              rw [Nl.getD_lt (by omega)] at h2 h3
              rw [Hid, List.drop_eq_getElem_cons (by omega), List.drop_eq_getElem_cons hkb, h1, ← h2, ← h3, h4]
            · obtain ⟨q, rfl⟩ := hw.out; exact ⟨_, drewN_drewN _ _ _⟩
          case measure => simp [intOf] <;> omega
        · have e1 : ((x : Int) != (y : Int)) = true := by rw [bne_iff_ne]; omega
          have HE := Lib.hid hxy
          clear hxy
          go_wp2
          go_quiet (fail)
          go_wp2
          obtain ⟨w2, hw2⟩ : ∃ w2, wr.drewN nq = w2 := ⟨_, rfl⟩
          rw [hw2]
          have d1 : w2.cell? ⟨ba, oa + k, none⟩ = some (.int .u32 (x : Int)) := by rw [← hw2]; exact c1'
          have d2 : w2.cell? ⟨bb, ob + k, none⟩ = some (.int .u32 (y : Int)) := by rw [← hw2]; exact c2'
          have HW := Lib.hid hw2
          clear hw2 c1' c2'
          go_quiet ((go_at_call 230; exact Calls.quiet_of_same ((compare_u32 _ _ _).mono fun _ _ h => ⟨h.1, h.2.symm⟩)))
          go_wp2
          go_ret
          refine ⟨ret_int ?_, ?_⟩
          · have h2 := Hx.out
            have h3 := Hy.out
            have hll := HL.out
            rcases Nat.lt_or_gt_of_ne HE.out with h | h
            · rw [cmpI_lt h]
              have := Nl.val_less (k := k) (Nl.limbs_small m) (by omega) hll hd.out (by rw [← h2, ← h3]; exact h)
              rw [Nl.val_limbs, Nl.val_limbs] at this
              rw [cmpI_lt this]
            · rw [cmpI_gt h]
              have := Nl.val_less (k := k) (Nl.limbs_small n) (by omega) hll.symm hd.out.symm (by rw [← h2, ← h3]; exact h)
              rw [Nl.val_limbs, Nl.val_limbs] at this
              rw [cmpI_gt this]
          · obtain ⟨q, rfl⟩ := hw.out
            rw [← HW.out, drewN_drewN, drewN_drewN]
            exact ⟨_, rfl⟩
  · have hl1 : (((Nl.limbs m).length : Int) != ((Nl.limbs n).length : Int)) = true := by rw [bne_iff_ne]; omega
    have HL := Lib.hid hl
    clear hl
    go_enter Tryz.func194, Tryz.ntmps194
    go_wp2_with (go_at_call 229; refine (compare_int _ _ _).mono ?_; rintro e w' ⟨rfl, rfl⟩)
    go_ret
    refine ⟨ret_int ?_, 0, rfl⟩
    rcases Nat.lt_or_gt_of_ne HL.out with h | h
    · rw [cmpI_lt h, cmpI_lt (Nl.limbs_shorter h)]
    · rw [cmpI_gt h, cmpI_gt (Nl.limbs_shorter h)]
end Go.Proofs.YtkbghamkalidcaaGreat
