/-
  What isNumeral does. Conditions: those that each theorem names.
-/
import Derived.Test.YtfaledeidjmooaaGreatRefTrim
import Derived.Lib.Strings
namespace Go.Proofs.YtfaledeidjmooaaGreat
open Go.RowKit

/-- the bytes of a string, as numbers -/
def dl (bs : ByteArray) : List Nat := bs.data.toList.map UInt8.toNat
theorem dl_length (bs : ByteArray) : (dl bs).length = bs.size := by rw [dl, List.length_map, Lib.size_eq]
theorem dl_get (bs : ByteArray) (k : Nat) (h : k < bs.size) : bs[k].toNat = (dl bs).getD k 0 := by
  have h2 : k < bs.data.toList.length := by rw [← Lib.size_eq]; exact h
  have h3 : k < (dl bs).length := by rw [dl_length]; exact h
  rw [Nl.getD_lt h3]
  simp only [dl, List.getElem_map]
  rfl
theorem dl_drop (bs : ByteArray) (k : Nat) : dl (bs.extract k bs.size) = (dl bs).drop k := by
  rw [dl, Lib.extract_data, dl, ← List.map_drop]
  congr 1
  rw [List.take_of_length_le]
  rw [List.length_drop, Lib.size_eq]
  exact Nat.le_refl _
theorem dl_inj {l m : List UInt8} (h : l.map UInt8.toNat = m.map UInt8.toNat) : l = m :=
  (List.map_inj_right (fun a b hab => UInt8.toNat_inj.1 hab)).1 h
theorem dl_48 (bs : ByteArray) : (bs.toList == [48]) = decide (dl bs = [48]) := by
  rw [Lib.toList_data, Bool.eq_iff_iff, beq_iff_eq, decide_eq_true_eq]
  constructor
  · intro h; rw [dl, h]; rfl
  · intro h; exact dl_inj (show bs.data.toList.map UInt8.toNat = [48].map UInt8.toNat from h)
theorem dl_nil (bs : ByteArray) : bs.toList.isEmpty = decide (dl bs = []) := by
  rw [Lib.toList_data, Bool.eq_iff_iff, List.isEmpty_iff, decide_eq_true_eq]
  constructor
  · intro h; rw [dl, h]; rfl
  · intro h; simpa [dl] using h

def isDig (d : Nat) : Bool := decide (48 ≤ d) && decide (d ≤ 57)
/-- do these bytes stand for a number? -/
def isNum (l : List Nat) : Bool := l.all isDig && (decide (l = [48]) || (decide (l ≠ []) && decide (l.getD 0 0 ≠ 48)))

set_option maxHeartbeats 1000000 in
theorem isNumeral_any (bs : ByteArray) (w : World) (hl : bs.size ≤ 1000000000) : Calls Tryz.prog 87 #[.string bs] w fun e w' => e = .returned (.bool (isNum (dl bs))) ∧ w = w' := by
  go_enter Tryz.func87, Tryz.ntmps87
  go_wp2
  go_loop [3, 6] (fun _ i => ∃ k : Nat, k ≤ bs.size ∧ i = .int .i64 k ∧ Hid (∀ j, j < k → isDig ((dl bs).getD j 0) = true)) (fun _ i => bs.size - (intOf i).toNat)
  case atStart => exact ⟨0, by omega, rfl, fun j hj => by omega⟩
  case round =>
    obtain ⟨k, hk, rfl, hd⟩ := hrel
    by_cases hlt : k < bs.size
    · have hg := dl_get bs k hlt
      have hmem : (dl bs).getD k 0 ∈ dl bs := by
        rw [Nl.getD_lt (by rw [dl_length]; exact hlt)]; exact List.getElem_mem _
      have HG := Lib.hid hg
      by_cases h1 : bs[k].toNat < 48
      · have e1 : decide ((bs[k].toNat : Int) < 48) = true := decide_eq_true (by omega)
        have HF := Lib.hid (show isNum (dl bs) = false by
          rw [isNum, show (dl bs).all isDig = false from List.all_eq_false.2 ⟨_, hmem, by rw [isDig, ← hg, decide_eq_false (by omega), Bool.false_and]; decide⟩]; rfl)
        clear hg hmem
        go_wp2
        go_ret
        exact ⟨by rw [HF.out]; rfl, rfl⟩
      · have e1 : decide ((bs[k].toNat : Int) < 48) = false := decide_eq_false (by omega)
        by_cases h2 : 57 < bs[k].toNat
        · have e2 : decide ((bs[k].toNat : Int) > 57) = true := decide_eq_true (by omega)
          have HF := Lib.hid (show isNum (dl bs) = false by
            rw [isNum, show (dl bs).all isDig = false from List.all_eq_false.2 ⟨_, hmem, by rw [isDig, ← hg, decide_eq_false (show ¬ bs[k].toNat ≤ 57 by omega), Bool.and_false]; decide⟩]; rfl)
          clear hg hmem
          go_wp2
          go_ret
          exact ⟨by rw [HF.out]; rfl, rfl⟩
        · have e2 : decide ((bs[k].toNat : Int) > 57) = false := decide_eq_false (by omega)
          have HD := Lib.hid (show isDig ((dl bs).getD k 0) = true by rw [isDig, ← hg, decide_eq_true (by omega), decide_eq_true (by omega)]; rfl)
          clear hg hmem
          go_wp2
          go_round
          case rel =>
            refine ⟨k + 1, by omega, by go_num, fun j hj => ?_⟩
            rcases Nat.lt_or_eq_of_le (Nat.le_of_lt_succ hj) with hj | rfl
            · exact hd.out j hj
            · exact HD.out
          case measure => simp [intOf] <;> omega
    · have hall : (dl bs).all isDig = true := by
        rw [List.all_eq_true]
        intro x hx
        obtain ⟨j, hj, rfl⟩ := List.getElem_of_mem hx
        have := hd.out j (by rw [dl_length] at hj; omega)
        rwa [Nl.getD_lt hj] at this
      have hE := dl_nil bs
      have hL := dl_48 bs
      by_cases h48 : dl bs = [48]
      · rw [decide_eq_true h48] at hL
        have HF := Lib.hid (show isNum (dl bs) = true by rw [isNum, hall, decide_eq_true h48]; rfl)
        clear hE h48 hall
        go_wp2
        go_ret
        exact ⟨by rw [HF.out]; rfl, rfl⟩
      · rw [decide_eq_false h48] at hL
        by_cases h0 : dl bs = []
        · rw [decide_eq_true h0] at hE
          have HF := Lib.hid (show isNum (dl bs) = false by rw [isNum, decide_eq_false h48, h0]; rfl)
          clear h48 hall h0
          go_wp2
          go_ret
          exact ⟨by rw [HF.out]; rfl, rfl⟩
        · rw [decide_eq_false h0] at hE
          have hs : 0 < bs.size := by
            rw [← dl_length]; exact List.length_pos_iff.2 h0
          have hg := dl_get bs 0 hs
          by_cases hz : bs[0].toNat = 48
          · have eX : ((bs[0].toNat : Int) != 48) = false := by simp [hz]
            have HF := Lib.hid (show isNum (dl bs) = false by rw [isNum, decide_eq_false h48, ← hg, hz]; simp)
            clear h48 hall h0 hg hz
            go_wp2
            go_ret
            exact ⟨by rw [HF.out]; rfl, rfl⟩
          · have eX : ((bs[0].toNat : Int) != 48) = true := by rw [bne_iff_ne]; omega
            have HF := Lib.hid (show isNum (dl bs) = true by rw [isNum, hall, decide_eq_false h48, ← hg, decide_eq_true h0, decide_eq_true hz]; rfl)
            clear h48 hall h0 hg hz
            go_wp2
            go_ret
            exact ⟨by rw [HF.out]; rfl, rfl⟩
end Go.Proofs.YtfaledeidjmooaaGreat
