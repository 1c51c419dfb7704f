/-
  Where a number lies in memory. Conditions: those that each theorem names.
-/
import Derived.Test.YtipjbnbmackidaaGreatMath
import Derived.Test.YtipjbnbmackidaaGreatProg
import Derived.WalkKit
import Derived.OneCell
import Derived.Deep.Draws
import Derived.Deep.QuietTactic
import Derived.BigQuiet
import Derived.WalkSmall
import Derived.Lib.Hide
import Derived.Laws.CopyOwn
import Derived.Outline
namespace Go.Proofs.YtipjbnbmackidaaGreat
open Go.RowKit

/-- the cells of a block from 'off' on read xs -/
def Cells (w : World) (b off : Nat) (xs : List Nat) : Prop := ∀ i, i < xs.length → w.cell? ⟨b, off + i, none⟩ = some (.int .u32 ((xs.getD i 0 : Nat) : Int))

/-- v is a slice that reads xs; its block is one that p allows -/
def AtP (p : Nat → Prop) (w : World) (v : Value) (xs : List Nat) : Prop :=
  (v = .slice none 0 0 ∧ xs = []) ∨ ∃ b off cap, v = .slice (some ⟨b, off, none⟩) xs.length cap ∧ p b ∧ xs.length ≤ cap ∧ cap ≤ 9223372036854775807 ∧ b < w.heap.size ∧ Cells w b off xs
abbrev At (w : World) (v : Value) (xs : List Nat) : Prop := AtP (fun _ => True) w v xs

theorem Cells.below {w w' : World} {B b off : Nat} {xs : List Nat} (h : Cells w b off xs) (hb : Below B w w') (hB : b < B) : Cells w' b off xs :=
  fun i hi => (hb.cell (p := ⟨b, off + i, none⟩) hB).trans (h i hi)
theorem AtP.below {p : Nat → Prop} {w w' : World} {v : Value} {xs : List Nat} (h : AtP p w v xs) (hb : Below w.heap.size w w') : AtP p w' v xs := by
  rcases h with h | ⟨b, off, cap, h1, h2, h3, h4, h5, h6⟩
  · exact .inl h
  · exact .inr ⟨b, off, cap, h1, h2, h3, h4, Nat.lt_of_lt_of_le h5 hb.size, h6.below hb h5⟩
theorem AtP.mono {p q : Nat → Prop} {w : World} {v : Value} {xs : List Nat} (h : AtP p w v xs) (hpq : ∀ b, b < w.heap.size → p b → q b) : AtP q w v xs := by
  rcases h with h | ⟨b, off, cap, h1, h2, h3, h4, h5, h6⟩
  · exact .inl h
  · exact .inr ⟨b, off, cap, h1, hpq b h5 h2, h3, h4, h5, h6⟩
theorem AtP.at {p : Nat → Prop} {w : World} {v : Value} {xs : List Nat} (h : AtP p w v xs) : At w v xs := h.mono fun _ _ _ => trivial

theorem AtP.form {p : Nat → Prop} {w : World} {v : Value} {xs : List Nat} (h : AtP p w v xs) :
    ∃ a cap, v = .slice a xs.length cap ∧ (xs = [] ∨ ∃ b off, a = some ⟨b, off, none⟩ ∧ p b ∧ xs.length ≤ cap ∧ cap ≤ 9223372036854775807 ∧ b < w.heap.size ∧ Cells w b off xs) := by
  rcases h with ⟨rfl, rfl⟩ | ⟨b, off, cap, h1, h2⟩
  · exact ⟨none, 0, rfl, .inl rfl⟩
  · exact ⟨_, _, h1, .inr ⟨b, off, rfl, h2⟩⟩
/-- a length that a slice has -/
theorem AtP.short {p : Nat → Prop} {w : World} {v : Value} {xs : List Nat} (h : AtP p w v xs) : xs.length ≤ 9223372036854775807 := by
  rcases h with ⟨_, rfl⟩ | ⟨b, off, cap, _, _, h3, h4, _⟩
  · simp
  · omega
theorem drewN_drewN (w : World) (a b : Nat) : (w.drewN a).drewN b = w.drewN (a + b) := by simp [World.drewN, Nat.add_assoc]
theorem below_drewN (w : World) (n B : Nat) : Below B w (w.drewN n) := ⟨rfl, rfl, rfl, Nat.le_refl _, fun _ _ => rfl⟩

/-- words as values -/
def vals (L : List Nat) : List Value := L.map fun x : Nat => Value.int .u32 (x : Int)
/-- block g, all of it, holds the words L; it may be written -/
def Row (w : World) (g : Nat) (L : List Nat) : Prop := w.heap[g]? = some (.cells (vals L).toArray 77 (0, 0))

theorem vals_length (L : List Nat) : (vals L).length = L.length := by simp [vals]
theorem vals_get {L : List Nat} {i : Nat} (h : i < L.length) : (vals L)[i]? = some (.int .u32 ((L.getD i 0 : Nat) : Int)) := by simp [vals, h]
theorem Row.cell {w : World} {g : Nat} {L : List Nat} (h : Row w g L) {i : Nat} (hi : i < L.length) : w.cell? ⟨g, i, none⟩ = some (.int .u32 ((L.getD i 0 : Nat) : Int)) := by
  rw [cell_of_row w g i _ _ _ h]; simpa using vals_get hi
theorem Row.free {w : World} {g : Nat} {L : List Nat} (h : Row w g L) (i : Nat) : w.frozen? ⟨g, i, none⟩ = false := frozen_of_row w g i _ _ h
theorem Row.lt {w : World} {g : Nat} {L : List Nat} (h : Row w g L) : g < w.heap.size := lt_of_block h
theorem Row.set {w : World} {g : Nat} {L : List Nat} (h : Row w g L) (i y : Nat) : Row (w.setCell ⟨g, i, none⟩ (.int .u32 (y : Int))) g (L.set i y) := by
  have := heap_setCell_same w g i _ _ (.int .u32 (y : Int)) h
  unfold Row; rw [this]
  simp [vals, List.map_set]
theorem Row.kept {w w' : World} {g : Nat} {L : List Nat} {r : Option Nat} (h : Row w g L) (hg : w.grownBy w' r) (hr : r ≠ some g) : Row w' g L := by
  have := hg.block g h.lt (fun e => hr e.symm)
  unfold Row; rw [this]; exact h
theorem Row.below {w w' : World} {g B : Nat} {L : List Nat} (h : Row w g L) (hb : Below B w w') (hB : g < B) : Row w' g L := by
  unfold Row; rw [hb.block g hB]; exact h
theorem Row.cells {w : World} {g : Nat} {L : List Nat} (h : Row w g L) {off : Nat} {xs : List Nat} (hx : ∀ i, i < xs.length → off + i < L.length ∧ L.getD (off + i) 0 = xs.getD i 0) : Cells w g off xs := by
  intro i hi
  obtain ⟨h1, h2⟩ := hx i hi
  rw [h.cell h1, h2]
theorem Row.inj {w : World} {g : Nat} {L M : List Nat} (h : Row w g L) (k : Row w g M) : L = M := by
  have e : (vals L).toArray = (vals M).toArray := by
    have := h.symm.trans k
    simpa using this
  have e2 : vals L = vals M := by simpa using congrArg Array.toList e
  have hi : Function.Injective (fun x : Nat => Value.int .u32 (x : Int)) := by
    intro a b hab; simp at hab; omega
  exact (List.map_inj_right (fun a b hab => hi hab)).1 e2

/-- only block g has changed; there may be new blocks -/
abbrev Only (g : Nat) (w w' : World) : Prop := w.grownBy w' (some g)
theorem Only.refl (g : Nat) (w : World) : Only g w w := World.grownBy.refl w _
theorem Only.setCell (g i : Nat) (v : Value) (w : World) : Only g w (w.setCell ⟨g, i, none⟩ v) :=
  ⟨rfl, rfl, rfl, by simp [World.setCell], fun k _ hne => Below.heap_setCell _ _ _ _ (fun e => hne (by simp [e]))⟩
theorem grown_trans {a b c : World} {r : Option Nat} (h : a.grownBy b r) (k : b.grownBy c r) : a.grownBy c r :=
  ⟨k.os.trans h.os, k.tape.trans h.tape, k.output.trans h.output, Nat.le_trans h.size k.size, fun i hi hn => (k.block i (Nat.lt_of_lt_of_le hi h.size) hn).trans (h.block i hi hn)⟩
theorem grown_of_below {a b : World} {r : Option Nat} (h : Below a.heap.size a b) : a.grownBy b r := ⟨h.os, h.tape, h.output, h.size, fun k hk _ => h.block k hk⟩
theorem below_of_only {a b c : World} {g B : Nat} (h : Below B a b) (k : Only g b c) (hg : B ≤ g) (hB : B ≤ b.heap.size) : Below B a c :=
  h.grown k hB (fun j hj => by cases hj; exact hg)
theorem AtP.only {p : Nat → Prop} {w w' : World} {v : Value} {xs : List Nat} {g : Nat} (h : AtP p w v xs) (hg : Only g w w') (hp : ∀ b, p b → b ≠ g) : AtP p w' v xs := by
  rcases h with h | ⟨b, off, cap, h1, h2, h3, h4, h5, h6⟩
  · exact .inl h
  · refine .inr ⟨b, off, cap, h1, h2, h3, h4, Nat.lt_of_lt_of_le h5 hg.size, fun i hi => ?_⟩
    exact hg.cell (h6 i hi) (by simpa using hp b h2)

/-- v is a slice from the head of a block that the call itself made: it reads xs -/
def Own (base : Nat) (w : World) (v : Value) (xs : List Nat) : Prop :=
  (v = .slice none 0 0 ∧ xs = []) ∨ ∃ g L, v = .slice (some ⟨g, 0, none⟩) xs.length L.length ∧ base ≤ g ∧ Row w g L ∧ L.take xs.length = xs ∧ xs.length ≤ L.length ∧ L.length ≤ 9223372036854775807

theorem Own.at {base : Nat} {w : World} {v : Value} {xs : List Nat} (h : Own base w v xs) : AtP (base ≤ ·) w v xs := by
  rcases h with h | ⟨g, L, h1, h2, h3, h4, h5, h6⟩
  · exact .inl h
  · refine .inr ⟨g, 0, L.length, h1, h2, h5, h6, h3.lt, h3.cells fun i hi => ⟨by omega, ?_⟩⟩
    conv => rhs; rw [← h4]
    simp [hi]
theorem Own.below {base : Nat} {w w' : World} {v : Value} {xs : List Nat} (h : Own base w v xs) (hb : Below w.heap.size w w') : Own base w' v xs := by
  rcases h with h | ⟨g, L, h1, h2, h3, h4, h5, h6⟩
  · exact .inl h
  · exact .inr ⟨g, L, h1, h2, h3.below hb h3.lt, h4, h5, h6⟩
theorem Own.mono {base base' : Nat} {w : World} {v : Value} {xs : List Nat} (h : Own base w v xs) (hb : base' ≤ base) : Own base' w v xs := by
  rcases h with h | ⟨g, L, h1, h2, h3⟩
  · exact .inl h
  · exact .inr ⟨g, L, h1, Nat.le_trans hb h2, h3⟩
theorem Own.trim {base : Nat} {w : World} {g : Nat} {L : List Nat} (hb : base ≤ g) (hr : Row w g L) (hl : L.length ≤ 9223372036854775807) :
    Own base w (.slice (some ⟨g, 0, none⟩) (Nl.trim L).length L.length) (Nl.trim L) :=
  .inr ⟨g, L, rfl, hb, hr, (Nl.trim_prefix L).symm, Nl.trim_length L, hl⟩

theorem made_zero (n : Nat) : madeCells (Value.int .u32 0).cells (n * 1) = (vals (Nl.zeros n)).toArray := by
  apply Array.ext
  · simp [madeCells, vals, Nl.zeros]
  · intro i h1 h2
    simp [madeCells, vals, Nl.zeros, Value.cells, Nat.mod_one]
theorem infoWord : (Tryz.prog.info? 77).map (fun i => (i.zero, i.size, i.bytes)) = some (some (.int .u32 0), 1, 4) := by kernel_rfl
theorem sizeWord : (Tryz.prog.info? 77).map (·.size) = some 1 := by kernel_rfl
theorem make_words (t : TypeId) (ht : Tryz.prog.underlying t = some (.slice 77)) (w : World) (c : Int) (n : Nat) (hc : c = n) (h : n ≤ 70368744177664) :
    (Instr.makeSlice t (.int .i64 c) (.int .i64 c)).run Tryz.prog w = .ok (.slice (some ⟨w.heap.size, 0, none⟩) n n) (w.alloc (.cells (vals (Nl.zeros n)).toArray 77)) := by
  subst hc
  obtain ⟨i0, hi, hz0, hz1, hz2⟩ := info_parts infoWord
  have := run_make (P := Tryz.prog) w t 77 i0 (.int .u32 0) ht hi hz0 .i64 .i64 n n (by omega) (by omega) (by rw [hz2]; omega) (by omega)
  rw [this, hz1]
  simp only [Int.toNat_natCast]
  rw [made_zero]
theorem row_new (w : World) (L : List Nat) : Row (w.alloc (.cells (vals L).toArray 77)) w.heap.size L := heap_alloc_new w _

theorem splice_map (L xs : List Nat) (off : Nat) : splice (vals L) off (vals xs) = vals (splice L off xs) := by
  simp [splice, vals]
theorem length_splice' (L xs : List Nat) (off : Nat) (h : off + xs.length ≤ L.length) : (splice L off xs).length = L.length := length_splice L off xs h

/-- 'copy' of words -/
theorem wp_copy {w : World} {ops : Array Oper} {rest : List Oper} {o : Oper} {a : Act} {Q : Exit → Act → World → Prop} (hgd : o.guard = none) (d s : Operand) (dT sT : TypeId)
    (ho : o.op = .call { callee := .builtin .copy, args := #[d, s], argTypes := #[dT, sT] }) (hu : Tryz.prog.underlying dT = some (.slice 77))
    (dp sp : Option Addr) (dLen dCap sLen sCap : Nat) (hd : a.eval d = .slice dp dLen dCap) (hs : a.eval s = .slice sp sLen sCap)
    (g off : Nat) (L xs : List Nat) (hg : Row w g L) (hn : xs.length = Nat.min sLen dLen)
    (hpos : 0 < xs.length → dp = some ⟨g, off, none⟩ ∧ ∃ b f, sp = some ⟨b, f, none⟩ ∧ Cells w b f xs)
    (hfit : off + xs.length ≤ L.length) (B : Nat) (w0 : World) (hb : Below B w0 w) (hBg : B ≤ g)
    (h : ∀ w', Hid (Row w' g (splice L off xs)) → Below B w0 w' → wpList Tryz.prog ops Q rest (a.put o.dst (goInt (vals xs).length)) w') :
    wpList Tryz.prog ops Q (o :: rest) a w := by
  refine wpList_copy_splice hgd d s dT sT ho 77 hu sizeWord dp sp dLen dCap sLen sCap hd hs g off (vals L) 77 hg (vals xs) (by rw [vals_length]; exact hn) ?_ (by rw [vals_length, vals_length]; exact hfit) ?_ B w0 hb hBg ?_
  · intro h0
    rw [vals_length] at h0
    obtain ⟨h1, b, f, rfl, hc⟩ := hpos h0
    refine ⟨h1, _, rfl, fun j v hj => ?_⟩
    have hjl : j < xs.length := by
      have := (List.getElem?_eq_some_iff.1 hj).1
      rwa [vals_length] at this
    rw [vals_get hjl] at hj
    cases hj
    have := hc j hjl
    unfold Addr.add
    split
    · next h0 => subst h0; exact this
    · exact this
  · intro v hv
    obtain ⟨x, _, rfl⟩ := List.mem_map.1 hv
    rfl
  · intro w' hr hb'
    refine h w' ?_ hb'
    have := hr.out
    rw [splice_map] at this
    exact this
end Go.Proofs.YtipjbnbmackidaaGreat
