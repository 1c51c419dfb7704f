/-
  What text does. Conditions: those that each theorem names.
-/
import Derived.Test.YtikgfdkaikpmhaaGreatReverse
import Derived.Laws.IdiomStrings
namespace Go.Proofs.YtikgfdkaikpmhaaGreat
open Go.RowKit

attribute [local go_sem] Oper.semAt_some

/-- the text of a number -/
def textOf (m : Nat) : ByteArray := ⟨((if m = 0 then [48] else (digitsL m).reverse).map UInt8.ofNat).toArray⟩

theorem digits_any (a : Option Addr) (l c : Nat) (w : World) : CallsIn Fence.wide 3 Tryz.prog 115 #[.slice a l c] w fun e w' => e = .returned (.func (.func 137) #[] #[.pointer (some ⟨w.heap.size, 0, none⟩)]) ∧ w' = w.alloc (.cells #[.slice a l c] 69) := by
  have hmf : ∀ (fn : Fn) (first cap : Array Value) (w : World), (Instr.makeFunc fn first cap).run Tryz.prog w = .ok (.func fn first cap) w := fun _ _ _ _ => rfl
  refine callsIn_wide.2 ?_
  go_enter Tryz.func115, Tryz.ntmps115
  go_wp2_with fail
  go_ret
  exact ⟨rfl, rfl⟩

theorem addr_add (g j : Nat) : Addr.add ⟨g, 0, none⟩ j = ⟨g, j, none⟩ := by unfold Addr.add; split <;> simp_all
theorem byte_nat {x : Nat} (h : x < 256) : (((UInt8.ofNat x).toNat : Nat) : Int) = (x : Int) := by
  have : (UInt8.ofNat x).toNat = x := by
    rw [UInt8.toNat_ofNat']
    exact Nat.mod_eq_of_lt h
  rw [this]

/-- what has been collected: the variable and the row behind it -/
def Got (w : World) (pre : List Nat) (W : World) : Prop := (∃ v, W.heap[w.heap.size]? = some (Obj.cells #[v] 66 (0, 0)) ∧ W.ownsRow (w.heap.size + 1) 5 1 v pre.length (bvals pre)) ∧ Below w.heap.size w W
theorem Got.kept {w W W' : World} {pre : List Nat} {row : Option Nat} (h : Got w pre W) (hg : W.grownBy W' row)
    (hr : ∀ r, row = some r → w.heap.size ≤ r ∧ ∃ o : Obj, W.heap[r]? = some o ∧ (∀ cs fz, o ≠ Obj.cells cs 66 fz) ∧ (∀ cs fz, o ≠ Obj.cells cs 5 fz)) : Got w pre W' := by
  obtain ⟨⟨v, h1, h2⟩, hb⟩ := h
  refine ⟨⟨v, ?_, ?_⟩, ⟨hg.os.trans hb.os, hg.tape.trans hb.tape, hg.output.trans hb.output, Nat.le_trans hb.size hg.size, fun q hq => ?_⟩⟩
  · refine (hg.block _ (lt_of_block h1) fun e => ?_).trans h1
    obtain ⟨_, o, ho, k1, _⟩ := hr _ e.symm
    rw [h1] at ho
    cases ho
    exact k1 _ _ rfl
  · refine h2.kept hg ?_
    obtain ⟨_, ⟨rfl, _⟩ | ⟨g, cap, cur, rfl, hb', hg', _⟩⟩ := h2
    · exact .inl rfl
    · refine .inr fun e => ?_
      obtain ⟨_, o, ho, _, k2⟩ := hr _ e.symm
      rw [hg'] at ho
      cases ho
      exact k2 _ _ rfl
  · rw [← hb.block q hq]
    exact hg.block q (Nat.lt_of_lt_of_le hq hb.size) fun e => by have := (hr _ e.symm).1; omega

theorem infoByte : (Tryz.prog.info? 5).map (fun i => (i.zero, i.size, i.bytes)) = some (some (.int .u8 0), 1, 1) := by kernel_rfl
theorem got_box {w W w1 : World} {k : Nat} {x : Value} {v : Value} {L : List Value} (hc : W.heap[w.heap.size]? = some (Obj.cells #[v] 66 (0, 0))) (ho : W.ownsRow (w.heap.size + 1) 5 1 v k L)
    (hg : (W.alloc (.cells #[x] 5)).grownBy w1 v.ownBlock) : w1.heap[w.heap.size]? = some (Obj.cells #[v] 66 (0, 0)) := by
  have hkl := lt_of_block hc
  refine (hg.block _ (by simp; omega) fun e => ?_).trans ((Below.heap_alloc W _ _ hkl).trans hc)
  obtain ⟨_, ⟨rfl, _⟩ | ⟨g, cap, cur, rfl, hbg, _⟩⟩ := ho
  · cases e
  · have : w.heap.size = g := by simpa [Value.ownBlock] using e
    omega

/-- one byte more -/
theorem got_next {w W w1 : World} {pre : List Nat} {x B : Nat} {v v' : Value} (hc : W.heap[w.heap.size]? = some (Obj.cells #[v] 66 (0, 0))) (ho : W.ownsRow (w.heap.size + 1) 5 1 v pre.length (bvals pre)) (hb : Below w.heap.size w W)
    (ho' : w1.ownsRow (w.heap.size + 1) 5 1 v' (pre.length + 1) (bvals pre ++ [.int .u8 (x : Int)])) (hg : (W.alloc (.cells #[.int .u8 (x : Int)] 5)).grownBy w1 v.ownBlock) :
    KeepsFrom B W (w1.setCell ⟨w.heap.size, 0, none⟩ v') ∧ KeepWords W (w1.setCell ⟨w.heap.size, 0, none⟩ v') ∧ Got w (pre ++ [x]) (w1.setCell ⟨w.heap.size, 0, none⟩ v') := by
  have hsz : W.heap.size ≤ w1.heap.size := by have := hg.size; simp at this; omega
  have keep1 : ∀ (k : Nat) (o : Obj), W.heap[k]? = some o → (∀ cs fz, o ≠ Obj.cells cs 5 fz) → w1.heap[k]? = some o := fun k o hk hno => by
    have hkl : k < W.heap.size := (Array.getElem?_eq_some_iff.1 hk).1
    refine (hg.block k (by simp; omega) fun e => ?_).trans ((Below.heap_alloc W _ k hkl).trans hk)
    obtain ⟨_, ⟨rfl, _⟩ | ⟨g, cap, cur, rfl, _, hg', _⟩⟩ := ho
    · cases e
    · have : k = g := by simpa [Value.ownBlock] using e
      subst this
      rw [hk] at hg'
      cases hg'
      exact hno _ _ rfl
  have keep : ∀ (k : Nat) (o : Obj), W.heap[k]? = some o → (∀ cs fz, o ≠ Obj.cells cs 5 fz) → k ≠ w.heap.size → (w1.setCell ⟨w.heap.size, 0, none⟩ v').heap[k]? = some o := fun k o hk hno hne =>
    (Below.heap_setCell w1 ⟨w.heap.size, 0, none⟩ v' k hne).trans (keep1 k o hk hno)
  have hbox := keep1 _ _ hc (fun cs fz e => by cases e)
  refine ⟨⟨by simpa using hsz, fun k o _ hk hcell => keep k o hk (fun cs fz e => by rw [e] at hcell; cases hcell) (fun e => ?_)⟩, ⟨by simpa using hsz, fun g cs fz hk => keep g _ hk (fun cs' fz' e => by cases e) (fun e => ?_)⟩, ⟨v', one_setCell hbox, ?_⟩, ?_⟩
  · rw [e, hc] at hk; cases hk; cases hcell
  · rw [e, hc] at hk; cases hk
  · rw [bvals_snoc, List.length_append]
    refine World.ownsRow.kept ho' (Only.setCell w.heap.size 0 v' w1) ?_
    obtain ⟨_, ⟨rfl, h⟩ | ⟨g, cap, cur, rfl, hbg, _⟩⟩ := ho'
    · exact .inl rfl
    · refine .inr fun e => ?_
      have : g = w.heap.size := by simpa [Value.ownBlock] using e
      omega
  · have h1 : Below w.heap.size w (W.alloc (.cells #[.int .u8 (x : Int)] 5)) := hb.trans (((Below.refl W.heap.size W).alloc (Nat.le_refl _) _).mono hb.size)
    refine Below.setCell (p := ⟨w.heap.size, 0, none⟩) (show Below w.heap.size w w1 from ⟨hg.os.trans h1.os, hg.tape.trans h1.tape, hg.output.trans h1.output, Nat.le_trans hb.size hsz, fun q hq => ?_⟩) (Nat.le_refl _) _
    rw [← h1.block q hq]
    refine hg.block q (Nat.lt_of_lt_of_le hq h1.size) fun e => ?_
    obtain ⟨_, ⟨rfl, _⟩ | ⟨g, cap, cur, rfl, hbg, _⟩⟩ := ho
    · cases e
    · have : q = g := by simpa [Value.ownBlock] using e
      omega

set_option maxRecDepth 100000 in
set_option maxHeartbeats 2000000 in
theorem text_pos (va : Value) (m : Nat) (w : World) (ha : IsN w va m) (hl : (Nl.limbs m).length ≤ 1000) (h0 : m ≠ 0) :
    Calls Tryz.prog 84 #[va] w fun e w' => e = .returned (.string (textOf m)) ∧ Below w.heap.size w w' := by
  refine (callsIn_wide (n := 4)).1 ?_
  have h1 : 0 < (Nl.limbs m).length := by
    rcases Nat.eq_zero_or_pos (Nl.limbs m).length with h | h
    · exact absurd (Nl.len_zero h) h0
    · exact h
  have e0 : (((Nl.limbs m).length : Int) == 0) = false := by rw [beq_eq_false_iff_ne]; omega
  have HA := Lib.hid ha
  obtain ⟨a, ca, rfl, -⟩ := ha.form
  have HL := Lib.hid hl
  have hdl : (digitsL m).length ≤ 32000 := by
    have h := digits_len (32 * (Nl.limbs m).length) m (by rw [← pow32]; exact Nl.lt_limbs m)
    omega
  have HDL := Lib.hid hdl
  clear ha hl h1 hdl
  refine callsIn_of_wp_marks Tryz.func84 rfl trivial ?_ rfl
  simp only [Tryz.ntmps84, List.size_toArray, List.length_cons, List.length_nil, Nat.reduceAdd, Nat.reduceSub, Array.replicate_succ, Array.replicate_zero, List.push_toArray, List.append_toArray, List.nil_append, List.cons_append]
  gi_wp2_with (refine ⟨trivial, ?_⟩; gi_at_call 115; refine (digits_any _ _ _ _).mono ?_; rintro e W1 ⟨rfl, rfl⟩)
  obtain ⟨W0, hW0⟩ : ∃ W0, W0 = (w.alloc (.cells #[.slice none 0 0] 66)).alloc (.cells #[.slice a (Nl.limbs m).length ca] 69) := ⟨_, rfl⟩
  rw [← hW0]
  have hs0 : W0.heap.size = w.heap.size + 2 := by rw [hW0]; simp
  have hb0 : Below w.heap.size w W0 := by rw [hW0]; exact ((Below.refl _ _).alloc (Nat.le_refl _) _).alloc (by simp) _
  have hbox : W0.heap[w.heap.size]? = some (Obj.cells #[.slice none 0 0] 66 (0, 0)) := by rw [hW0]; exact heap_alloc2_old w _ _
  have hnat : W0.cell? ⟨w.heap.size + 1, 0, none⟩ = some (.slice a (Nl.limbs m).length ca) := by rw [hW0]; exact cell_of_one (heap_alloc2_new w _ _)
  clear hW0
  have hyl : Yields 3 137 #[.pointer (some ⟨w.heap.size + 1, 0, none⟩)] (digitsL m) W0 := fun l J W hW hJ hY hJ0 =>
    digits1_in 3 l (w.heap.size + 1) m (by decide) _ J W hJ hY ((hW.cell (p := ⟨w.heap.size + 1, 0, none⟩) (show w.heap.size + 1 < W0.heap.size by omega)).trans hnat) ((HA.out.below hb0).below hW) h0 (by have := HL.out; omega) hJ0
  refine wpIn_range_bytes (G := 137) (lb := #[.pointer (some ⟨w.heap.size + 1, 0, none⟩)]) (xs := digitsL m) rfl (fun _ _ => by kernel_rfl) (by decide) hyl rfl (Got w) ?iw ?io ⟨⟨_, hbox, World.ownsRow_nil _ _ _ _⟩, hb0⟩
    (fun x => { tmps := #[Value.slice a (Nl.limbs m).length ca, undef, Value.string { data := #[] }, Value.pointer (some { block := w.heap.size, off := 0 }), .int .u8 ((x : Nat) : Int), Value.slice a (Nl.limbs m).length ca,
          Value.int IntKind.i64 ((Nl.limbs m).length : Int), Value.bool false, Value.slice a (Nl.limbs m).length ca, Value.func (Fn.func 137) #[] #[Value.pointer (some { block := w.heap.size + 1, off := 0 })], .int .u8 ((x : Nat) : Int), undef,
          undef, undef, undef, undef, undef, undef, undef], defers := [] }) ?assign ?body ?done
  case iw =>
    intro pre A B row h hg hr
    exact h.kept hg fun r e => by
      obtain ⟨h1, cs, fz, h2⟩ := hr r e
      exact ⟨by omega, _, h2, (fun _ _ e => by cases e), (fun _ _ e => by cases e)⟩
  case io =>
    intro pre A B row h hg hr
    exact h.kept hg fun r e => by
      obtain ⟨h1, o, h2, h3⟩ := hr r e
      exact ⟨by omega, o, h2, (fun _ _ e => by rw [e] at h3; cases h3), (fun _ _ e => by rw [e] at h3; cases h3)⟩
  case assign =>
    intro l x W K hK
    gi_wp2
    exact hK
  case body =>
    rintro l pre x W ⟨⟨v, hc, ho⟩, hb⟩ hx hpl hsz
    obtain ⟨i0, hi, hz0, hz1, hz2⟩ := info_parts infoByte
    have hcell := cell_of_one hc
    have HC := Lib.hid (And.intro hc (And.intro ho hb))
    have HI := Lib.hid (And.intro hi (And.intro hz0 (And.intro hz1 hz2)))
    have hplm := HDL.out
    have hb1 := hb.size
    clear hi hz0 hz1 hz2 hc ho hb hyl hbox hnat hb0
    gi_wp2_with (gi_at_builtin; refine wpListIn_append_own _ rfl (.tmp 11) (.tmp 13) 66 rfl (w.heap.size + 1) 5 i0 (.int .u8 0) 1 1 Tryz.underlying66 HI.out.1 HI.out.2.1 HI.out.2.2.1 HI.out.2.2.2 rfl (by decide) v pre.length (bvals pre) rfl (HC.out.2.1.alloc _) ⟨W.heap.size, 0, none⟩ 1 1 [.int .u8 (x : Int)] rfl rfl ?_ ?_ ?_ ?_ ?_ ?_)
    · intro j u hj
      exact one_new_cell hj
    · intro u hu
      simp at hu
      rw [hu]; rfl
    · simp only [maxLen]; omega
    · omega
    · simp; omega
    intro v' w1 ho' hg' _
    have hnx := got_next (B := w.heap.size + 2) HC.out.1 HC.out.2.1 HC.out.2.2 ho' hg'
    have hbx := got_box HC.out.1 HC.out.2.1 hg'
    have hcb := cell_of_one hbx
    have hfb := free_of_one hbx
    obtain ⟨g', cap', rfl, -⟩ := owns_slice ho' (by omega)
    have HN := Lib.hid hnx
    clear ho' hg' hnx hbx
    gi_wp2_with fail
    exact HN.out
  case done =>
    rintro W ⟨⟨v, hc, ho⟩, hb⟩ hD
    have hpos : 0 < (digitsL m).length := by rw [digitsL_pos h0]; simp
    obtain ⟨g', cap', rfl, hg1, hg2, hg3, hg4⟩ := owns_slice ho hpos
    have hgD : W0.heap.size ≠ g' := by
      intro e
      obtain ⟨_, ⟨h, _⟩ | ⟨g, cap, cur, h, _, hg', _⟩⟩ := ho
      · cases h
      · simp only [Value.slice.injEq, Option.some.injEq, Addr.mk.injEq, and_true, true_and] at h
        rw [← h.1, ← e, hD] at hg'
        cases hg'
    have hrv := reverse_any (w.heap.size + 1) g' (digitsL m).length cap' (digitsL m) W rfl ho (by have := HDL.out; omega) hg3 hg4
    have HRV := Lib.hid hrv
    have hcell := cell_of_one hc
    have HC := Lib.hid (And.intro hc (And.intro hb hD))
    have HG := Lib.hid (And.intro hg1 (And.intro hg2 (And.intro hgD hpos)))
    clear hc ho hb hD hrv hyl hbox hnat hg1 hg2 hg3 hg4 hgD hpos hb0
    gi_wp2_with fail
    refine ⟨trivial, (callsIn_wide.2 HRV.out).mono ?_⟩
    rintro e W2 ⟨⟨u, rfl⟩, ho2, hgr2⟩
    have hbx : W2.heap[w.heap.size]? = some (Obj.cells #[.slice (some ⟨g', 0, none⟩) (digitsL m).length cap'] 66 (0, 0)) :=
      (hgr2.block _ (lt_of_block HC.out.1) (by intro e; have := HG.out.1; cases e; omega)).trans HC.out.1
    have hcell2 := cell_of_one hbx
    have hD2 : W2.heap[W0.heap.size]? = some (.deferred (some [])) :=
      (hgr2.block _ (Array.getElem?_eq_some_iff.1 HC.out.2.2).1 (by intro e; cases e; exact HG.out.2.2.1 rfl)).trans HC.out.2.2
    have hB2 : Below w.heap.size w W2 := by
      have h1 := HC.out.2.1
      refine ⟨hgr2.os.trans h1.os, hgr2.tape.trans h1.tape, hgr2.output.trans h1.output, Nat.le_trans h1.size hgr2.size, fun q hq => ?_⟩
      rw [← h1.block q hq]
      exact hgr2.block q (Nat.lt_of_lt_of_le hq h1.size) (by intro e; have := HG.out.1; cases e; omega)
    have hcv : (convert 66 9 (.slice (some ⟨g', 0, none⟩) (digitsL m).length cap')).run Tryz.prog W2 = .ok (.string (textOf m)) W2 := by
      have hlen : ((digitsL m).reverse.map UInt8.ofNat).length = (digitsL m).length := by simp
      have := run_convert_bytes_back W2 66 9 5 ⟨g', 0, none⟩ cap' ((digitsL m).reverse.map UInt8.ofNat) Tryz.underlying66 Tryz.underlying5 Tryz.underlying9 (fun j hj => by
        have hj2 : j < (digitsL m).reverse.length := by simpa using hj
        have hc := (ho2.cellAt j (by simp at hj2; omega)).trans (bvals_get hj2)
        have hb : (digitsL m).reverse.getD j 0 < 256 := by
          rw [List.getD_eq_getElem?_getD, List.getElem?_eq_getElem hj2]
          exact digits_small (List.mem_reverse.1 (List.getElem_mem hj2))
        have e : (digitsL m).reverse.getD j 0 = ((digitsL m).reverse[j]'hj2) := by rw [List.getD_eq_getElem?_getD, List.getElem?_eq_getElem hj2]; rfl
        rw [addr_add, hc, List.getElem_map, e, byte_nat (by rw [← e]; exact hb)])
      rw [hlen] at this
      rw [this, textOf, if_neg h0]
    have HD2 := Lib.hid (And.intro hD2 hB2)
    clear hbx hD2 hB2 ho2 hgr2 HRV hcell
    gi_wp2_with fail
    have HD3 : W2.heap[w.heap.size + 2]? = some (.deferred (some [])) := by rw [← hs0]; exact HD2.out.1
    refine ⟨by simp, .inl ⟨_, _, rfl, run_takeDeferred HD3, ?_⟩⟩
    exact ⟨_, results_tmp rfl _ _ _, rfl, HD2.out.2.trans (belowK_b (w := w) (Nat.le_refl _) W2 (w.heap.size + 2) _ _ (by omega) HD3 rfl rfl)⟩
end Go.Proofs.YtikgfdkaikpmhaaGreat
