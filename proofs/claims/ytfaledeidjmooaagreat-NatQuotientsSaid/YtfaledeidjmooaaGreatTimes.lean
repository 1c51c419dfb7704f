/-
  What timesHalves and times do. Conditions: those that each theorem names.
-/
import Derived.Test.YtfaledeidjmooaaGreatHalves
namespace Go.Proofs.YtfaledeidjmooaaGreat
open Go.RowKit

theorem timesHalves_any (va vb : Value) (m n cut : Nat) (w : World) (ha : IsN w va m) (hb : IsN w vb n) (hla : (Nl.limbs m).length ≤ 100000) (hlb : (Nl.limbs n).length ≤ 100000)
    (hcut : 2 ≤ cut) (hcut2 : cut ≤ 1000000) :
    Calls Tryz.prog 131 #[va, vb, .int .i64 cut] w fun e w' => (∃ v, e = .returned v ∧ Own w.heap.size w' v (Nl.limbs (m * n))) ∧ Below w.heap.size w w' := by
  have hmf : ∀ (fn : Fn) (first cap : Array Value) (w : World), (Instr.makeFunc fn first cap).run Tryz.prog w = .ok (.func fn first cap) w := fun _ _ _ _ => rfl
  have HA := Lib.hid ha
  have HB := Lib.hid hb
  clear ha hb
  go_enter Tryz.func131, Tryz.ntmps131
  go_wp2_with fail
  obtain ⟨W, hW⟩ : ∃ W, W = (w.alloc (.cells #[.int .i64 (cut : Int)] 3)).alloc (.cells #[.func (.func 154) #[] #[.pointer (some ⟨w.heap.size, 0, none⟩), .pointer (some ⟨w.heap.size + 1, 0, none⟩)]] 146) := ⟨_, rfl⟩
  rw [← hW]
  have hbW : Below w.heap.size w W := by rw [hW]; exact ((Below.refl _ _).alloc (Nat.le_refl _) _).alloc (by simp) _
  have hs : W.heap.size = w.heap.size + 2 := by rw [hW]; simp
  have c1 : W.cell? ⟨w.heap.size, 0, none⟩ = some (.int .i64 cut) := by rw [hW]; simp
  have c2 : W.cell? ⟨w.heap.size + 1, 0, none⟩ = some (.func (.func 154) #[] #[.pointer (some ⟨w.heap.size, 0, none⟩), .pointer (some ⟨w.heap.size + 1, 0, none⟩)]) := by rw [hW]; simp
  refine (halves_any cut w.heap.size (w.heap.size + 1) hcut hcut2 (m + n) m n (Nat.le_refl _) va vb W (HA.out.below hbW) (HB.out.below hbW) hla hlb c1 c2 (by omega) (by omega)).mono ?_
  rintro e w1 ⟨⟨v, rfl, hv⟩, hb⟩
  have hbb : Below w.heap.size w w1 := hbW.trans (hb.mono (by omega))
  have hvv := hv.mono (show w.heap.size ≤ W.heap.size by omega)
  clear hW hs c1 c2 hb hv
  go_wp2_with fail
  go_ret
  exact ⟨⟨_, rfl, hvv⟩, hbb⟩
theorem times_any (va vb : Value) (m n : Nat) (w : World) (ha : IsN w va m) (hb : IsN w vb n) (hla : (Nl.limbs m).length ≤ 100000) (hlb : (Nl.limbs n).length ≤ 100000) :
    Calls Tryz.prog 133 #[va, vb] w fun e w' => (∃ v, e = .returned v ∧ Own w.heap.size w' v (Nl.limbs (m * n))) ∧ Below w.heap.size w w' := by
  have h := Lib.hid (timesHalves_any va vb m n 80 w ha hb hla hlb (by omega) (by omega))
  clear ha hb
  go_enter Tryz.func133, Tryz.ntmps133
  go_wp2_with fail
  refine h.out.mono ?_
  rintro e w1 ⟨⟨v, rfl, hv⟩, hb⟩
  go_wp2_with fail
  go_ret
  exact ⟨⟨_, rfl, hv⟩, hb⟩
end Go.Proofs.YtfaledeidjmooaaGreat
