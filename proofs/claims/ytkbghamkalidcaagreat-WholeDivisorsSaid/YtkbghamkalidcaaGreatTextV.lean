/-
  What the text of an integer that is not 0 is. Conditions: those that each theorem names.
-/
import Derived.Test.YtkbghamkalidcaaGreatTextIAll
namespace Go.Proofs.YtkbghamkalidcaaGreat
open Go.RowKit

attribute [local go_sem] Oper.semAt_some

theorem roundEnds_got {up : Bool} {V W w' : World} {pre : List Nat} {x B : Nat} {a : Act} (h : KeepsFrom B W.drew w' ∧ KeepTy W.drew w' ∧ Got V (pre.map (letterN up) ++ [letterN up x]) w') : RoundEnds B (GotL up V) (pre ++ [x]) W .normal a w' :=
  ⟨⟨h.1.1, h.1.2⟩, ⟨h.2.1.1, h.2.1.2⟩, by show Got V ((pre ++ [x]).map (letterN up)) _; rw [List.map_append]; exact h.2.2⟩

set_option maxRecDepth 100000 in
set_option maxHeartbeats 4000000 in
theorem text_true (sg : Bool) (va : Value) (m B : Nat) (w : World) (ha : AtI w va sg (Nl.limbs m)) (hl : (Nl.limbs m).length ≤ 1024) (h0 : m ≠ 0) (hB : 2 ≤ B) (hB36 : B ≤ 36) (hdl : (digitsB B m).length ≤ 100000) :
    Calls Tryz.prog 98 #[va, .int .i64 B, .bool true] w fun e w' => e = .returned (.string (textB B true sg m)) ∧ Below w.heap.size w w' := by
  refine (callsIn_wide (n := 4)).1 ?_
  obtain ⟨p0, c0, rfl, u0⟩ := ha.form
  have HA := Lib.hid u0
  have HL := Lib.hid hl
  have HB := Lib.hid (And.intro hB hB36)
  have HDL := Lib.hid hdl
  obtain ⟨V, hV⟩ : ∃ V, V = (w.alloc (.cells #[.bool sg, .slice p0 (Nl.limbs m).length c0] 78)).alloc (.cells #[.string ⟨#[48, 49, 50, 51, 52, 53, 54, 55, 56, 57, 65, 66, 67, 68, 69, 70, 71, 72, 73, 74, 75, 76, 77, 78, 79, 80, 81, 82, 83, 84, 85, 86, 87, 88, 89, 90]⟩] 9) := ⟨_, rfl⟩
  have hVs : w.heap.size + 1 + 1 = V.heap.size := by rw [hV]; simp
  have hVb : Below w.heap.size w V := by rw [hV]; exact two_new w _ _
  have hVa : V.heap[w.heap.size]? = some (.cells #[.bool sg, .slice p0 (Nl.limbs m).length c0] 78 (0, 0)) := by rw [hV]; exact heap_alloc2_old w _ _
  have hVl : V.heap[w.heap.size + 1]? = some (.cells #[.string (letters true)] 9 (0, 0)) := by rw [hV]; exact heap_alloc2_new w _ _
  obtain ⟨T, hT⟩ : ∃ T, T = V.alloc (.cells #[.slice none 0 0] 170) := ⟨_, rfl⟩
  have hTs : T.heap.size = V.heap.size + 1 := by rw [hT]; simp
  have hTb : Below V.heap.size V T := by rw [hT]; exact below_one _ _
  have hTt : T.heap[V.heap.size]? = some (.cells #[.slice none 0 0] 170 (0, 0)) := by rw [hT]; exact al_at _ _ rfl
  have hTa : T.heap[w.heap.size]? = some (.cells #[.bool sg, .slice p0 (Nl.limbs m).length c0] 78 (0, 0)) := (hTb.block _ (lt_of_block hVa)).trans hVa
  have hla := cell_of_row _ _ 1 _ _ (0, 0) hTa
  simp only [List.getElem?_toArray, List.getElem?_cons_zero, List.getElem?_cons_succ] at hla
  rw [hT] at hla
  have HV := Lib.hid (And.intro hVs (And.intro hVb (And.intro hVa hVl)))
  have HD := Lib.hid (fun (w' : World) => (callsIn_wide (n := 3)).2 (digitsFromEnd_any p0 (Nl.limbs m).length c0 B w' hB hB36))
  have HT := Lib.hid (And.intro hTs (And.intro hTb hTt))
  clear ha u0 hl hB hB36 hdl hVb hVa hVl hTs hTb hTt hTa
  refine callsIn_of_wp_marks Tryz.func98 rfl trivial ?_ rfl
  simp only [Tryz.ntmps98, List.size_toArray, List.length_cons, List.length_nil, Nat.reduceAdd, Nat.reduceSub, Array.replicate_succ, Array.replicate_zero, List.push_toArray, List.append_toArray, List.nil_append, List.cons_append]
  gi_wp2_with fail
  rw [← hV]
  clear hV
  gi_wp2_with fail
  rw [← hT]
  clear hT hVs hla
  refine ⟨trivial, (HD.out T).mono ?_⟩
  rintro e W0 ⟨s, z, hok, rfl, hW0⟩
  have hs0 : W0.heap.size = T.heap.size + 4 := by rw [hW0]; simp
  have hb0 : Below T.heap.size T W0 := by rw [hW0]; exact ((((Below.refl _ _).alloc (Nat.le_refl _) _).alloc (by simp) _).alloc (by simp <;> omega) _).alloc (by simp <;> omega) _
  have hka : W0.heap[T.heap.size]? = some (.cells #[.slice p0 (Nl.limbs m).length c0] 23 (0, 0)) := by rw [hW0]; exact al_keep _ _ (by simp <;> omega) (al_keep _ _ (by simp <;> omega) (al_keep _ _ (by simp <;> omega) (al_at _ _ (by simp))))
  have hkb : W0.heap[T.heap.size + 1]? = some (.cells #[.int .i64 B] 3 (0, 0)) := by rw [hW0]; exact al_keep _ _ (by simp <;> omega) (al_keep _ _ (by simp <;> omega) (al_at _ _ (by simp)))
  have hks : W0.heap[T.heap.size + 2]? = some (.cells #[.int .u32 s] 80 (0, 0)) := by rw [hW0]; exact al_keep _ _ (by simp <;> omega) (al_at _ _ (by simp))
  have hkz : W0.heap[T.heap.size + 3]? = some (.cells #[.int .i64 z] 3 (0, 0)) := by rw [hW0]; exact al_at _ _ (by simp)
  have hX : SeqBox W0 (T.heap.size + 2) (T.heap.size + 3) (T.heap.size + 1) s z B := ⟨hks, hkz, hkb⟩
  have hwT : Below w.heap.size w W0 := (HV.out.2.1.trans (HT.out.2.1.mono HV.out.2.1.size)).trans (hb0.mono (HV.out.2.1.trans (HT.out.2.1.mono HV.out.2.1.size)).size)
  have hyl : YieldsI 3 210 #[.pointer (some ⟨T.heap.size, 0, none⟩), .pointer (some ⟨T.heap.size + 2, 0, none⟩), .pointer (some ⟨T.heap.size + 3, 0, none⟩), .pointer (some ⟨T.heap.size + 1, 0, none⟩)] B (digitsB B m) W0 := fun l J W hW hJ hY hJ0 =>
    digitsI1_in 3 l T.heap.size (T.heap.size + 2) (T.heap.size + 3) (T.heap.size + 1) m B s z (by decide) HB.out.1 HB.out.2 hok _ J W hJ hY (cell_of_one ((hW.block _ (lt_of_block hka)).trans hka)) (hX.below hW) ((HA.out.below hwT).below hW) HL.out hJ0
  have HW0 := Lib.hid (And.intro hs0 (And.intro hb0 hwT))
  have hbox : W0.heap[V.heap.size]? = some (.cells #[.slice none 0 0] 170 (0, 0)) := (hb0.block _ (by rw [HT.out.1]; omega)).trans HT.out.2.2
  have hVW : Below V.heap.size V W0 := HT.out.2.1.trans (hb0.mono HT.out.2.1.size)
  clear hW0 hs0 hb0 hka hkb hks hkz hX hwT hok HD
  gi_wp2_with fail
  refine wpIn_range_digits (G := 210) (lb := #[.pointer (some ⟨T.heap.size, 0, none⟩), .pointer (some ⟨T.heap.size + 2, 0, none⟩), .pointer (some ⟨T.heap.size + 3, 0, none⟩), .pointer (some ⟨T.heap.size + 1, 0, none⟩)]) (xs := digitsB B m) (B := B) rfl (fun _ _ => by kernel_rfl) (by decide) hyl rfl (GotL true V) (GotL.new true V) ?io ⟨⟨_, hbox, World.ownsRow_nil _ _ _ _⟩, hVW⟩
    (fun x => { tmps := #[Value.agg #[Value.bool sg, Value.slice p0 (Nl.limbs m).length c0], Value.int .i64 B, Value.bool true, Value.pointer (some ⟨w.heap.size, 0, none⟩), undef, undef, Value.string { data := #[] }, Value.pointer (some ⟨w.heap.size + 1, 0, none⟩), Value.pointer (some ⟨V.heap.size, 0, none⟩), .int .i64 ((x : Nat) : Int), Value.bool true,
      Value.pointer (some ⟨w.heap.size, 1, none⟩), Value.slice p0 (Nl.limbs m).length c0, Value.int .i64 B, Value.func (Fn.func 210) #[] #[.pointer (some ⟨T.heap.size, 0, none⟩), .pointer (some ⟨T.heap.size + 2, 0, none⟩), .pointer (some ⟨T.heap.size + 3, 0, none⟩), .pointer (some ⟨T.heap.size + 1, 0, none⟩)], .int .i64 ((x : Nat) : Int),
      undef, undef, undef, undef, undef, undef, undef, undef, undef, undef, undef, undef, undef, undef, undef, undef, undef, undef, undef, undef, undef], defers := [] }) ?assign ?body ?done
  case io =>
    intro pre A B row h hg hr
    exact Got.kept h hg fun r e => by
      obtain ⟨h1, o, h2, h3⟩ := hr r e
      exact ⟨Nat.le_trans hVW.size h1, o, h2, (fun _ _ e => by rw [e] at h3; cases h3), (fun _ _ e => by rw [e] at h3; cases h3)⟩
  case assign =>
    intro l x W K hK
    gi_wp2
    exact hK
  case body =>
    rintro l pre x W ⟨⟨v, hc, ho⟩, hb⟩ hx hpl hsz
    obtain ⟨i0, hi, hz0, hz1, hz2⟩ := info_parts infoByte
    have hcell := cell_of_one hc
    have hlet := cell_of_one ((hb.block _ (show w.heap.size + 1 < V.heap.size by have := HV.out.1; omega)).trans HV.out.2.2.2)
    have hcell2 : (W.alloc (.cells #[.int .u8 ((letterN true x : Nat) : Int)] 5)).cell? ⟨V.heap.size, 0, none⟩ = some v := (World.cell?_alloc_lt W _ ⟨V.heap.size, 0, none⟩ (lt_of_block hc)).trans hcell
    have hix := letter_index true x (Nat.lt_of_lt_of_le hx HB.out.2)
    have HC := Lib.hid (And.intro hc (And.intro ho hb))
    have HI := Lib.hid (And.intro hi (And.intro hz0 (And.intro hz1 hz2)))
    have hplm := HDL.out
    have hszV := hb.size
    clear hi hz0 hz1 hz2 hc ho hb hyl hbox hVW
    gi_wp2_with fail
    refine wpIn_region_any (by kernel_rfl) ?_
    change wpAnyIn _ _ _ _ _ _ _ _ _ (World.drew _)
    refine wpAnyIn_ready (rs := [0, 1, 2]) (by kernel_rfl) (by simp) ?_
    refine AllReadyIn.cons rfl (fun K hK => ?_) ?_
    · go_simp
      refine hK _ _ ?_
      clear hK K
      refine wpAnyIn_ready (rs := [1, 2]) (by kernel_rfl) (by simp) ?_
      refine AllReadyIn.cons rfl (fun K hK => ?_) ?_
      · go_simp
        refine hK _ _ ?_
        clear hK K
        refine wpAnyIn_ready (rs := [2]) (by kernel_rfl) (by simp) ?_
        refine AllReadyIn.cons rfl (fun K hK => ?_) ?_
        · go_simp
          refine hK _ _ ?_
          clear hK K
          refine wpAnyIn_ready (rs := [3]) (by kernel_rfl) (by simp) ?_
          refine AllReadyIn.cons rfl (fun K hK => ?_) ?_
          · go_simp
            refine hK _ _ ?_
            clear hK K
            refine wpAnyIn_ready (rs := [4]) (by kernel_rfl) (by simp) ?_
            refine AllReadyIn.cons rfl (fun K hK => ?_) ?_
            · go_simp
              refine hK _ _ ?_
              clear hK K
              refine wpAnyIn_ready (rs := [5]) (by kernel_rfl) (by simp) ?_
              refine AllReadyIn.cons rfl (fun K hK => ?_) ?_
              · rw [if_pos (by kernel_rfl)]
                refine opIn_append_own _ (.tmp 16) (.tmp 20) 170 rfl (V.heap.size + 1) 5 i0 (.int .u8 0) 1 1 Tryz.underlying170 HI.out.1 HI.out.2.1 HI.out.2.2.1 HI.out.2.2.2 rfl (by decide) v (pre.map (letterN true)).length (bvals (pre.map (letterN true))) rfl (HC.out.2.1.drew.alloc _) ⟨W.drew.heap.size, 0, none⟩ 1 1 [.int .u8 (letterN true x : Int)] rfl rfl (fun j u hj => one_new_cell hj) (fun u hu => by simp at hu; rw [hu]; rfl) (by simp only [maxLen, List.length_map]; omega) (by rw [List.length_map]; omega) (by simp; omega) (fun v' w1 ho' hg' => ?_)
                have hnx := got_next (B := W0.heap.size) (W := W.drew) HC.out.1 HC.out.2.1.drew HC.out.2.2.drew ho' hg'
                have hbx := got_box (W := W.drew) HC.out.1 HC.out.2.1.drew hg'
                have hcb := cell_of_one hbx
                have hfb := free_of_one hbx
                obtain ⟨g', cap', rfl, -⟩ := ownsB_slice ho' (by omega)
                simp only [List.length_map] at hnx
                have HN := Lib.hid hnx
                clear ho' hg' hnx hbx
                refine hK _ _ ?_
                clear hK K
                refine wpAnyIn_ready (rs := [6]) (by kernel_rfl) (by simp) ?_
                refine AllReadyIn.cons rfl (fun K hK => ?_) ?_
                · go_simp
                  refine hK _ _ ?_
                  clear hK K
                  refine wpAnyIn_done (by kernel_rfl) ?_ _
                  exact roundEnds_got (a := { tmps := #[], defers := [] }) HN.out
                exact AllReadyIn.nil
              exact AllReadyIn.nil
            exact AllReadyIn.nil
          exact AllReadyIn.nil
        exact AllReadyIn.nil
      refine AllReadyIn.cons rfl (fun K hK => ?_) ?_
      · go_simp
        refine hK _ _ ?_
        clear hK K
        refine wpAnyIn_ready (rs := [1]) (by kernel_rfl) (by simp) ?_
        refine AllReadyIn.cons rfl (fun K hK => ?_) ?_
        · go_simp
          refine hK _ _ ?_
          clear hK K
          refine wpAnyIn_ready (rs := [3]) (by kernel_rfl) (by simp) ?_
          refine AllReadyIn.cons rfl (fun K hK => ?_) ?_
          · go_simp
            refine hK _ _ ?_
            clear hK K
            refine wpAnyIn_ready (rs := [4]) (by kernel_rfl) (by simp) ?_
            refine AllReadyIn.cons rfl (fun K hK => ?_) ?_
            · go_simp
              refine hK _ _ ?_
              clear hK K
              refine wpAnyIn_ready (rs := [5]) (by kernel_rfl) (by simp) ?_
              refine AllReadyIn.cons rfl (fun K hK => ?_) ?_
              · rw [if_pos (by kernel_rfl)]
                refine opIn_append_own _ (.tmp 16) (.tmp 20) 170 rfl (V.heap.size + 1) 5 i0 (.int .u8 0) 1 1 Tryz.underlying170 HI.out.1 HI.out.2.1 HI.out.2.2.1 HI.out.2.2.2 rfl (by decide) v (pre.map (letterN true)).length (bvals (pre.map (letterN true))) rfl (HC.out.2.1.drew.alloc _) ⟨W.drew.heap.size, 0, none⟩ 1 1 [.int .u8 (letterN true x : Int)] rfl rfl (fun j u hj => one_new_cell hj) (fun u hu => by simp at hu; rw [hu]; rfl) (by simp only [maxLen, List.length_map]; omega) (by rw [List.length_map]; omega) (by simp; omega) (fun v' w1 ho' hg' => ?_)
                have hnx := got_next (B := W0.heap.size) (W := W.drew) HC.out.1 HC.out.2.1.drew HC.out.2.2.drew ho' hg'
                have hbx := got_box (W := W.drew) HC.out.1 HC.out.2.1.drew hg'
                have hcb := cell_of_one hbx
                have hfb := free_of_one hbx
                obtain ⟨g', cap', rfl, -⟩ := ownsB_slice ho' (by omega)
                simp only [List.length_map] at hnx
                have HN := Lib.hid hnx
                clear ho' hg' hnx hbx
                refine hK _ _ ?_
                clear hK K
                refine wpAnyIn_ready (rs := [6]) (by kernel_rfl) (by simp) ?_
                refine AllReadyIn.cons rfl (fun K hK => ?_) ?_
                · go_simp
                  refine hK _ _ ?_
                  clear hK K
                  refine wpAnyIn_done (by kernel_rfl) ?_ _
                  exact roundEnds_got (a := { tmps := #[], defers := [] }) HN.out
                exact AllReadyIn.nil
              exact AllReadyIn.nil
            exact AllReadyIn.nil
          exact AllReadyIn.nil
        exact AllReadyIn.nil
      exact AllReadyIn.nil
    refine AllReadyIn.cons rfl (fun K hK => ?_) ?_
    · go_simp
      refine hK _ _ ?_
      clear hK K
      refine wpAnyIn_ready (rs := [0, 2]) (by kernel_rfl) (by simp) ?_
      refine AllReadyIn.cons rfl (fun K hK => ?_) ?_
      · go_simp
        refine hK _ _ ?_
        clear hK K
        refine wpAnyIn_ready (rs := [2]) (by kernel_rfl) (by simp) ?_
        refine AllReadyIn.cons rfl (fun K hK => ?_) ?_
        · go_simp
          refine hK _ _ ?_
          clear hK K
          refine wpAnyIn_ready (rs := [3]) (by kernel_rfl) (by simp) ?_
          refine AllReadyIn.cons rfl (fun K hK => ?_) ?_
          · go_simp
            refine hK _ _ ?_
            clear hK K
            refine wpAnyIn_ready (rs := [4]) (by kernel_rfl) (by simp) ?_
            refine AllReadyIn.cons rfl (fun K hK => ?_) ?_
            · go_simp
              refine hK _ _ ?_
              clear hK K
              refine wpAnyIn_ready (rs := [5]) (by kernel_rfl) (by simp) ?_
              refine AllReadyIn.cons rfl (fun K hK => ?_) ?_
              · rw [if_pos (by kernel_rfl)]
                refine opIn_append_own _ (.tmp 16) (.tmp 20) 170 rfl (V.heap.size + 1) 5 i0 (.int .u8 0) 1 1 Tryz.underlying170 HI.out.1 HI.out.2.1 HI.out.2.2.1 HI.out.2.2.2 rfl (by decide) v (pre.map (letterN true)).length (bvals (pre.map (letterN true))) rfl (HC.out.2.1.drew.alloc _) ⟨W.drew.heap.size, 0, none⟩ 1 1 [.int .u8 (letterN true x : Int)] rfl rfl (fun j u hj => one_new_cell hj) (fun u hu => by simp at hu; rw [hu]; rfl) (by simp only [maxLen, List.length_map]; omega) (by rw [List.length_map]; omega) (by simp; omega) (fun v' w1 ho' hg' => ?_)
                have hnx := got_next (B := W0.heap.size) (W := W.drew) HC.out.1 HC.out.2.1.drew HC.out.2.2.drew ho' hg'
                have hbx := got_box (W := W.drew) HC.out.1 HC.out.2.1.drew hg'
                have hcb := cell_of_one hbx
                have hfb := free_of_one hbx
                obtain ⟨g', cap', rfl, -⟩ := ownsB_slice ho' (by omega)
                simp only [List.length_map] at hnx
                have HN := Lib.hid hnx
                clear ho' hg' hnx hbx
                refine hK _ _ ?_
                clear hK K
                refine wpAnyIn_ready (rs := [6]) (by kernel_rfl) (by simp) ?_
                refine AllReadyIn.cons rfl (fun K hK => ?_) ?_
                · go_simp
                  refine hK _ _ ?_
                  clear hK K
                  refine wpAnyIn_done (by kernel_rfl) ?_ _
                  exact roundEnds_got (a := { tmps := #[], defers := [] }) HN.out
                exact AllReadyIn.nil
              exact AllReadyIn.nil
            exact AllReadyIn.nil
          exact AllReadyIn.nil
        exact AllReadyIn.nil
      refine AllReadyIn.cons rfl (fun K hK => ?_) ?_
      · go_simp
        refine hK _ _ ?_
        clear hK K
        refine wpAnyIn_ready (rs := [0, 3]) (by kernel_rfl) (by simp) ?_
        refine AllReadyIn.cons rfl (fun K hK => ?_) ?_
        · go_simp
          refine hK _ _ ?_
          clear hK K
          refine wpAnyIn_ready (rs := [3]) (by kernel_rfl) (by simp) ?_
          refine AllReadyIn.cons rfl (fun K hK => ?_) ?_
          · go_simp
            refine hK _ _ ?_
            clear hK K
            refine wpAnyIn_ready (rs := [4]) (by kernel_rfl) (by simp) ?_
            refine AllReadyIn.cons rfl (fun K hK => ?_) ?_
            · go_simp
              refine hK _ _ ?_
              clear hK K
              refine wpAnyIn_ready (rs := [5]) (by kernel_rfl) (by simp) ?_
              refine AllReadyIn.cons rfl (fun K hK => ?_) ?_
              · rw [if_pos (by kernel_rfl)]
                refine opIn_append_own _ (.tmp 16) (.tmp 20) 170 rfl (V.heap.size + 1) 5 i0 (.int .u8 0) 1 1 Tryz.underlying170 HI.out.1 HI.out.2.1 HI.out.2.2.1 HI.out.2.2.2 rfl (by decide) v (pre.map (letterN true)).length (bvals (pre.map (letterN true))) rfl (HC.out.2.1.drew.alloc _) ⟨W.drew.heap.size, 0, none⟩ 1 1 [.int .u8 (letterN true x : Int)] rfl rfl (fun j u hj => one_new_cell hj) (fun u hu => by simp at hu; rw [hu]; rfl) (by simp only [maxLen, List.length_map]; omega) (by rw [List.length_map]; omega) (by simp; omega) (fun v' w1 ho' hg' => ?_)
                have hnx := got_next (B := W0.heap.size) (W := W.drew) HC.out.1 HC.out.2.1.drew HC.out.2.2.drew ho' hg'
                have hbx := got_box (W := W.drew) HC.out.1 HC.out.2.1.drew hg'
                have hcb := cell_of_one hbx
                have hfb := free_of_one hbx
                obtain ⟨g', cap', rfl, -⟩ := ownsB_slice ho' (by omega)
                simp only [List.length_map] at hnx
                have HN := Lib.hid hnx
                clear ho' hg' hnx hbx
                refine hK _ _ ?_
                clear hK K
                refine wpAnyIn_ready (rs := [6]) (by kernel_rfl) (by simp) ?_
                refine AllReadyIn.cons rfl (fun K hK => ?_) ?_
                · go_simp
                  refine hK _ _ ?_
                  clear hK K
                  refine wpAnyIn_done (by kernel_rfl) ?_ _
                  exact roundEnds_got (a := { tmps := #[], defers := [] }) HN.out
                exact AllReadyIn.nil
              exact AllReadyIn.nil
            exact AllReadyIn.nil
          exact AllReadyIn.nil
        refine AllReadyIn.cons rfl (fun K hK => ?_) ?_
        · go_simp
          refine hK _ _ ?_
          clear hK K
          refine wpAnyIn_ready (rs := [0, 4]) (by kernel_rfl) (by simp) ?_
          refine AllReadyIn.cons rfl (fun K hK => ?_) ?_
          · go_simp
            refine hK _ _ ?_
            clear hK K
            refine wpAnyIn_ready (rs := [4]) (by kernel_rfl) (by simp) ?_
            refine AllReadyIn.cons rfl (fun K hK => ?_) ?_
            · go_simp
              refine hK _ _ ?_
              clear hK K
              refine wpAnyIn_ready (rs := [5]) (by kernel_rfl) (by simp) ?_
              refine AllReadyIn.cons rfl (fun K hK => ?_) ?_
              · rw [if_pos (by kernel_rfl)]
                refine opIn_append_own _ (.tmp 16) (.tmp 20) 170 rfl (V.heap.size + 1) 5 i0 (.int .u8 0) 1 1 Tryz.underlying170 HI.out.1 HI.out.2.1 HI.out.2.2.1 HI.out.2.2.2 rfl (by decide) v (pre.map (letterN true)).length (bvals (pre.map (letterN true))) rfl (HC.out.2.1.drew.alloc _) ⟨W.drew.heap.size, 0, none⟩ 1 1 [.int .u8 (letterN true x : Int)] rfl rfl (fun j u hj => one_new_cell hj) (fun u hu => by simp at hu; rw [hu]; rfl) (by simp only [maxLen, List.length_map]; omega) (by rw [List.length_map]; omega) (by simp; omega) (fun v' w1 ho' hg' => ?_)
                have hnx := got_next (B := W0.heap.size) (W := W.drew) HC.out.1 HC.out.2.1.drew HC.out.2.2.drew ho' hg'
                have hbx := got_box (W := W.drew) HC.out.1 HC.out.2.1.drew hg'
                have hcb := cell_of_one hbx
                have hfb := free_of_one hbx
                obtain ⟨g', cap', rfl, -⟩ := ownsB_slice ho' (by omega)
                simp only [List.length_map] at hnx
                have HN := Lib.hid hnx
                clear ho' hg' hnx hbx
                refine hK _ _ ?_
                clear hK K
                refine wpAnyIn_ready (rs := [6]) (by kernel_rfl) (by simp) ?_
                refine AllReadyIn.cons rfl (fun K hK => ?_) ?_
                · go_simp
                  refine hK _ _ ?_
                  clear hK K
                  refine wpAnyIn_done (by kernel_rfl) ?_ _
                  exact roundEnds_got (a := { tmps := #[], defers := [] }) HN.out
                exact AllReadyIn.nil
              exact AllReadyIn.nil
            exact AllReadyIn.nil
          refine AllReadyIn.cons rfl (fun K hK => ?_) ?_
          · go_simp
            refine hK _ _ ?_
            clear hK K
            refine wpAnyIn_ready (rs := [0]) (by kernel_rfl) (by simp) ?_
            refine AllReadyIn.cons rfl (fun K hK => ?_) ?_
            · go_simp
              refine hK _ _ ?_
              clear hK K
              refine wpAnyIn_ready (rs := [5]) (by kernel_rfl) (by simp) ?_
              refine AllReadyIn.cons rfl (fun K hK => ?_) ?_
              · rw [if_pos (by kernel_rfl)]
                refine opIn_append_own _ (.tmp 16) (.tmp 20) 170 rfl (V.heap.size + 1) 5 i0 (.int .u8 0) 1 1 Tryz.underlying170 HI.out.1 HI.out.2.1 HI.out.2.2.1 HI.out.2.2.2 rfl (by decide) v (pre.map (letterN true)).length (bvals (pre.map (letterN true))) rfl (HC.out.2.1.drew.alloc _) ⟨W.drew.heap.size, 0, none⟩ 1 1 [.int .u8 (letterN true x : Int)] rfl rfl (fun j u hj => one_new_cell hj) (fun u hu => by simp at hu; rw [hu]; rfl) (by simp only [maxLen, List.length_map]; omega) (by rw [List.length_map]; omega) (by simp; omega) (fun v' w1 ho' hg' => ?_)
                have hnx := got_next (B := W0.heap.size) (W := W.drew) HC.out.1 HC.out.2.1.drew HC.out.2.2.drew ho' hg'
                have hbx := got_box (W := W.drew) HC.out.1 HC.out.2.1.drew hg'
                have hcb := cell_of_one hbx
                have hfb := free_of_one hbx
                obtain ⟨g', cap', rfl, -⟩ := ownsB_slice ho' (by omega)
                simp only [List.length_map] at hnx
                have HN := Lib.hid hnx
                clear ho' hg' hnx hbx
                refine hK _ _ ?_
                clear hK K
                refine wpAnyIn_ready (rs := [6]) (by kernel_rfl) (by simp) ?_
                refine AllReadyIn.cons rfl (fun K hK => ?_) ?_
                · go_simp
                  refine hK _ _ ?_
                  clear hK K
                  refine wpAnyIn_done (by kernel_rfl) ?_ _
                  exact roundEnds_got (a := { tmps := #[], defers := [] }) HN.out
                exact AllReadyIn.nil
              exact AllReadyIn.nil
            exact AllReadyIn.nil
          exact AllReadyIn.nil
        exact AllReadyIn.nil
      exact AllReadyIn.nil
    refine AllReadyIn.cons rfl (fun K hK => ?_) ?_
    · go_simp
      refine hK _ _ ?_
      clear hK K
      refine wpAnyIn_ready (rs := [0, 1]) (by kernel_rfl) (by simp) ?_
      refine AllReadyIn.cons rfl (fun K hK => ?_) ?_
      · go_simp
        refine hK _ _ ?_
        clear hK K
        refine wpAnyIn_ready (rs := [1]) (by kernel_rfl) (by simp) ?_
        refine AllReadyIn.cons rfl (fun K hK => ?_) ?_
        · go_simp
          refine hK _ _ ?_
          clear hK K
          refine wpAnyIn_ready (rs := [3]) (by kernel_rfl) (by simp) ?_
          refine AllReadyIn.cons rfl (fun K hK => ?_) ?_
          · go_simp
            refine hK _ _ ?_
            clear hK K
            refine wpAnyIn_ready (rs := [4]) (by kernel_rfl) (by simp) ?_
            refine AllReadyIn.cons rfl (fun K hK => ?_) ?_
            · go_simp
              refine hK _ _ ?_
              clear hK K
              refine wpAnyIn_ready (rs := [5]) (by kernel_rfl) (by simp) ?_
              refine AllReadyIn.cons rfl (fun K hK => ?_) ?_
              · rw [if_pos (by kernel_rfl)]
                refine opIn_append_own _ (.tmp 16) (.tmp 20) 170 rfl (V.heap.size + 1) 5 i0 (.int .u8 0) 1 1 Tryz.underlying170 HI.out.1 HI.out.2.1 HI.out.2.2.1 HI.out.2.2.2 rfl (by decide) v (pre.map (letterN true)).length (bvals (pre.map (letterN true))) rfl (HC.out.2.1.drew.alloc _) ⟨W.drew.heap.size, 0, none⟩ 1 1 [.int .u8 (letterN true x : Int)] rfl rfl (fun j u hj => one_new_cell hj) (fun u hu => by simp at hu; rw [hu]; rfl) (by simp only [maxLen, List.length_map]; omega) (by rw [List.length_map]; omega) (by simp; omega) (fun v' w1 ho' hg' => ?_)
                have hnx := got_next (B := W0.heap.size) (W := W.drew) HC.out.1 HC.out.2.1.drew HC.out.2.2.drew ho' hg'
                have hbx := got_box (W := W.drew) HC.out.1 HC.out.2.1.drew hg'
                have hcb := cell_of_one hbx
                have hfb := free_of_one hbx
                obtain ⟨g', cap', rfl, -⟩ := ownsB_slice ho' (by omega)
                simp only [List.length_map] at hnx
                have HN := Lib.hid hnx
                clear ho' hg' hnx hbx
                refine hK _ _ ?_
                clear hK K
                refine wpAnyIn_ready (rs := [6]) (by kernel_rfl) (by simp) ?_
                refine AllReadyIn.cons rfl (fun K hK => ?_) ?_
                · go_simp
                  refine hK _ _ ?_
                  clear hK K
                  refine wpAnyIn_done (by kernel_rfl) ?_ _
                  exact roundEnds_got (a := { tmps := #[], defers := [] }) HN.out
                exact AllReadyIn.nil
              exact AllReadyIn.nil
            exact AllReadyIn.nil
          exact AllReadyIn.nil
        exact AllReadyIn.nil
      refine AllReadyIn.cons rfl (fun K hK => ?_) ?_
      · go_simp
        refine hK _ _ ?_
        clear hK K
        refine wpAnyIn_ready (rs := [0, 3]) (by kernel_rfl) (by simp) ?_
        refine AllReadyIn.cons rfl (fun K hK => ?_) ?_
        · go_simp
          refine hK _ _ ?_
          clear hK K
          refine wpAnyIn_ready (rs := [3]) (by kernel_rfl) (by simp) ?_
          refine AllReadyIn.cons rfl (fun K hK => ?_) ?_
          · go_simp
            refine hK _ _ ?_
            clear hK K
            refine wpAnyIn_ready (rs := [4]) (by kernel_rfl) (by simp) ?_
            refine AllReadyIn.cons rfl (fun K hK => ?_) ?_
            · go_simp
              refine hK _ _ ?_
              clear hK K
              refine wpAnyIn_ready (rs := [5]) (by kernel_rfl) (by simp) ?_
              refine AllReadyIn.cons rfl (fun K hK => ?_) ?_
              · rw [if_pos (by kernel_rfl)]
                refine opIn_append_own _ (.tmp 16) (.tmp 20) 170 rfl (V.heap.size + 1) 5 i0 (.int .u8 0) 1 1 Tryz.underlying170 HI.out.1 HI.out.2.1 HI.out.2.2.1 HI.out.2.2.2 rfl (by decide) v (pre.map (letterN true)).length (bvals (pre.map (letterN true))) rfl (HC.out.2.1.drew.alloc _) ⟨W.drew.heap.size, 0, none⟩ 1 1 [.int .u8 (letterN true x : Int)] rfl rfl (fun j u hj => one_new_cell hj) (fun u hu => by simp at hu; rw [hu]; rfl) (by simp only [maxLen, List.length_map]; omega) (by rw [List.length_map]; omega) (by simp; omega) (fun v' w1 ho' hg' => ?_)
                have hnx := got_next (B := W0.heap.size) (W := W.drew) HC.out.1 HC.out.2.1.drew HC.out.2.2.drew ho' hg'
                have hbx := got_box (W := W.drew) HC.out.1 HC.out.2.1.drew hg'
                have hcb := cell_of_one hbx
                have hfb := free_of_one hbx
                obtain ⟨g', cap', rfl, -⟩ := ownsB_slice ho' (by omega)
                simp only [List.length_map] at hnx
                have HN := Lib.hid hnx
                clear ho' hg' hnx hbx
                refine hK _ _ ?_
                clear hK K
                refine wpAnyIn_ready (rs := [6]) (by kernel_rfl) (by simp) ?_
                refine AllReadyIn.cons rfl (fun K hK => ?_) ?_
                · go_simp
                  refine hK _ _ ?_
                  clear hK K
                  refine wpAnyIn_done (by kernel_rfl) ?_ _
                  exact roundEnds_got (a := { tmps := #[], defers := [] }) HN.out
                exact AllReadyIn.nil
              exact AllReadyIn.nil
            exact AllReadyIn.nil
          exact AllReadyIn.nil
        refine AllReadyIn.cons rfl (fun K hK => ?_) ?_
        · go_simp
          refine hK _ _ ?_
          clear hK K
          refine wpAnyIn_ready (rs := [0, 4]) (by kernel_rfl) (by simp) ?_
          refine AllReadyIn.cons rfl (fun K hK => ?_) ?_
          · go_simp
            refine hK _ _ ?_
            clear hK K
            refine wpAnyIn_ready (rs := [4]) (by kernel_rfl) (by simp) ?_
            refine AllReadyIn.cons rfl (fun K hK => ?_) ?_
            · go_simp
              refine hK _ _ ?_
              clear hK K
              refine wpAnyIn_ready (rs := [5]) (by kernel_rfl) (by simp) ?_
              refine AllReadyIn.cons rfl (fun K hK => ?_) ?_
              · rw [if_pos (by kernel_rfl)]
                refine opIn_append_own _ (.tmp 16) (.tmp 20) 170 rfl (V.heap.size + 1) 5 i0 (.int .u8 0) 1 1 Tryz.underlying170 HI.out.1 HI.out.2.1 HI.out.2.2.1 HI.out.2.2.2 rfl (by decide) v (pre.map (letterN true)).length (bvals (pre.map (letterN true))) rfl (HC.out.2.1.drew.alloc _) ⟨W.drew.heap.size, 0, none⟩ 1 1 [.int .u8 (letterN true x : Int)] rfl rfl (fun j u hj => one_new_cell hj) (fun u hu => by simp at hu; rw [hu]; rfl) (by simp only [maxLen, List.length_map]; omega) (by rw [List.length_map]; omega) (by simp; omega) (fun v' w1 ho' hg' => ?_)
                have hnx := got_next (B := W0.heap.size) (W := W.drew) HC.out.1 HC.out.2.1.drew HC.out.2.2.drew ho' hg'
                have hbx := got_box (W := W.drew) HC.out.1 HC.out.2.1.drew hg'
                have hcb := cell_of_one hbx
                have hfb := free_of_one hbx
                obtain ⟨g', cap', rfl, -⟩ := ownsB_slice ho' (by omega)
                simp only [List.length_map] at hnx
                have HN := Lib.hid hnx
                clear ho' hg' hnx hbx
                refine hK _ _ ?_
                clear hK K
                refine wpAnyIn_ready (rs := [6]) (by kernel_rfl) (by simp) ?_
                refine AllReadyIn.cons rfl (fun K hK => ?_) ?_
                · go_simp
                  refine hK _ _ ?_
                  clear hK K
                  refine wpAnyIn_done (by kernel_rfl) ?_ _
                  exact roundEnds_got (a := { tmps := #[], defers := [] }) HN.out
                exact AllReadyIn.nil
              exact AllReadyIn.nil
            exact AllReadyIn.nil
          refine AllReadyIn.cons rfl (fun K hK => ?_) ?_
          · go_simp
            refine hK _ _ ?_
            clear hK K
            refine wpAnyIn_ready (rs := [0]) (by kernel_rfl) (by simp) ?_
            refine AllReadyIn.cons rfl (fun K hK => ?_) ?_
            · go_simp
              refine hK _ _ ?_
              clear hK K
              refine wpAnyIn_ready (rs := [5]) (by kernel_rfl) (by simp) ?_
              refine AllReadyIn.cons rfl (fun K hK => ?_) ?_
              · rw [if_pos (by kernel_rfl)]
                refine opIn_append_own _ (.tmp 16) (.tmp 20) 170 rfl (V.heap.size + 1) 5 i0 (.int .u8 0) 1 1 Tryz.underlying170 HI.out.1 HI.out.2.1 HI.out.2.2.1 HI.out.2.2.2 rfl (by decide) v (pre.map (letterN true)).length (bvals (pre.map (letterN true))) rfl (HC.out.2.1.drew.alloc _) ⟨W.drew.heap.size, 0, none⟩ 1 1 [.int .u8 (letterN true x : Int)] rfl rfl (fun j u hj => one_new_cell hj) (fun u hu => by simp at hu; rw [hu]; rfl) (by simp only [maxLen, List.length_map]; omega) (by rw [List.length_map]; omega) (by simp; omega) (fun v' w1 ho' hg' => ?_)
                have hnx := got_next (B := W0.heap.size) (W := W.drew) HC.out.1 HC.out.2.1.drew HC.out.2.2.drew ho' hg'
                have hbx := got_box (W := W.drew) HC.out.1 HC.out.2.1.drew hg'
                have hcb := cell_of_one hbx
                have hfb := free_of_one hbx
                obtain ⟨g', cap', rfl, -⟩ := ownsB_slice ho' (by omega)
                simp only [List.length_map] at hnx
                have HN := Lib.hid hnx
                clear ho' hg' hnx hbx
                refine hK _ _ ?_
                clear hK K
                refine wpAnyIn_ready (rs := [6]) (by kernel_rfl) (by simp) ?_
                refine AllReadyIn.cons rfl (fun K hK => ?_) ?_
                · go_simp
                  refine hK _ _ ?_
                  clear hK K
                  refine wpAnyIn_done (by kernel_rfl) ?_ _
                  exact roundEnds_got (a := { tmps := #[], defers := [] }) HN.out
                exact AllReadyIn.nil
              exact AllReadyIn.nil
            exact AllReadyIn.nil
          exact AllReadyIn.nil
        exact AllReadyIn.nil
      exact AllReadyIn.nil
    exact AllReadyIn.nil
  case done =>
    rintro W ⟨⟨v, hc, ho⟩, hb⟩ hD
    obtain ⟨L0, hL0⟩ : ∃ L0, L0 = (digitsB B m).map (letterN true) := ⟨_, rfl⟩
    rw [← hL0] at ho
    have hLl : L0.length = (digitsB B m).length := by rw [hL0]; simp
    have hpos : 0 < L0.length := by rw [hLl, digitsB_pos HB.out.1 h0]; simp
    have hlm : L0.length ≤ 100000 := by rw [hLl]; exact HDL.out
    have hA0 : W.heap[w.heap.size]? = some (.cells #[.bool sg, .slice p0 (Nl.limbs m).length c0] 78 (0, 0)) := (hb.block _ (by have := HV.out.1; omega)).trans HV.out.2.2.1
    have hneg := cell_of_row _ _ 0 _ _ (0, 0) hA0
    simp only [List.getElem?_toArray, List.getElem?_cons_zero] at hneg
    obtain ⟨g', cap', rfl, hg1, hg2, hg3, hg4⟩ := ownsB_slice ho hpos
    have hcell := cell_of_one hc
    have e0 : (((L0.length : Nat) : Int) == 0) = false := by rw [beq_eq_false_iff_ne]; omega
    have HC := Lib.hid (And.intro hc (And.intro ho (And.intro hb hD)))
    have HLL := Lib.hid (And.intro hL0 (And.intro hpos hlm))
    have HG := Lib.hid (And.intro hg1 (And.intro hg2 (And.intro hg3 hg4)))
    clear hc ho hb hD hL0 hLl hpos hlm hA0 hg1 hg2 hg3 hg4 hyl hbox hVW
    have HLB0 := Lib.hid (show ∀ x, x ∈ L0 → x < 256 from fun x hx => by
      rw [HLL.out.1] at hx
      obtain ⟨d, hd, rfl⟩ := List.mem_map.1 hx
      exact letterN_lt _ (Nat.lt_of_lt_of_le (digitsB_lt HB.out.1 _ _ hd) HB.out.2))
    have HW0V := Lib.hid (show V.heap.size ≤ W0.heap.size by have := HW0.out.1; have := HT.out.1; omega)
    cases sg with
    | false =>
      have HLB := HLB0
      have HTX := Lib.hid (show textB B true false m = ⟨(L0.reverse.map UInt8.ofNat).toArray⟩ by rw [textB, textL, if_neg h0, HLL.out.1]; simp)
      have hpos := HLL.out.2.1
      have hlm := HLL.out.2.2
      obtain ⟨hc1, ho1, hb1, hD1⟩ := HC.out
      obtain ⟨hg1, hg2, hg3, hg4⟩ := HG.out
      clear HC HG
      have hrv := reverse_any (V.heap.size + 1) g' L0.length cap' L0 W (by simp) ho1 (by omega) hg3 hg4
      have HRV := Lib.hid hrv
      have hcell1 := cell_of_one hc1
      have hgD : W0.heap.size ≠ g' := by
        intro e
        obtain ⟨_, ⟨h, _⟩ | ⟨g, cap, cur, h, _, hg', _⟩⟩ := ho1
        · cases h
        · simp only [Value.slice.injEq, Option.some.injEq, Addr.mk.injEq, and_true, true_and] at h
          obtain ⟨rfl, -⟩ := h
          have h3 : (some (Obj.deferred (some [])) : Option Obj) = some (.cells cur 5 (0, 0)) := by rw [← hD1, e]; exact hg'
          cases h3
      have HC1 := Lib.hid (And.intro hc1 (And.intro hb1 (And.intro hD1 (And.intro hg1 hgD))))
      clear hrv hc1 ho1 hb1 hD1 hg1 hg2 hg3 hg4 hgD
      gi_wp2_with fail
      refine ⟨trivial, (callsIn_wide.2 HRV.out).mono ?_⟩
      rintro e W2 ⟨⟨u, rfl⟩, ho2, hgr2⟩
      have hbx : W2.heap[V.heap.size]? = some (Obj.cells #[.slice (some ⟨g', 0, none⟩) L0.length cap'] 170 (0, 0)) :=
        (hgr2.block _ (lt_of_block HC1.out.1) (by intro e; have := HC1.out.2.2.2.1; cases e; omega)).trans HC1.out.1
      have hcell2 := cell_of_one hbx
      have hD2 : W2.heap[W0.heap.size]? = some (.deferred (some [])) :=
        (hgr2.block _ (Array.getElem?_eq_some_iff.1 HC1.out.2.2.1).1 (by intro e; cases e; exact HC1.out.2.2.2.2 rfl)).trans HC1.out.2.2.1
      have hB2 : Below V.heap.size V W2 := by
        have h1 := HC1.out.2.1
        refine ⟨hgr2.os.trans h1.os, hgr2.tape.trans h1.tape, hgr2.output.trans h1.output, Nat.le_trans h1.size hgr2.size, fun q hq => ?_⟩
        rw [← h1.block q hq]
        exact hgr2.block q (Nat.lt_of_lt_of_le hq h1.size) (by intro e; have := HC1.out.2.2.2.1; cases e; omega)
      have hcv : (convert 170 9 (.slice (some ⟨g', 0, none⟩) L0.length cap')).run Tryz.prog W2 = .ok (.string ⟨(L0.reverse.map UInt8.ofNat).toArray⟩) W2 := by
        have hlen : (L0.reverse.map UInt8.ofNat).length = L0.length := by simp
        have := run_convert_bytes_back W2 170 9 5 ⟨g', 0, none⟩ cap' (L0.reverse.map UInt8.ofNat) Tryz.underlying170 Tryz.underlying5 Tryz.underlying9 (fun j hj => by
          have hj2 : j < L0.reverse.length := by simpa using hj
          have hc := (ho2.cellAt j (by simp at hj2; omega)).trans (bvals_get hj2)
          have hb : L0.reverse.getD j 0 < 256 := by
            rw [List.getD_eq_getElem?_getD, List.getElem?_eq_getElem hj2]
            exact HLB.out _ (List.mem_reverse.1 (List.getElem_mem hj2))
          have e : L0.reverse.getD j 0 = (L0.reverse[j]'hj2) := by rw [List.getD_eq_getElem?_getD, List.getElem?_eq_getElem hj2]; rfl
          rw [addr_add, hc, List.getElem_map, e, byte_nat (by rw [← e]; exact hb)])
        rw [hlen] at this
        exact this
      have HD2 := Lib.hid (And.intro hD2 hB2)
      clear hbx hD2 hB2 ho2 hgr2 HRV hcell1
      gi_wp2_with fail
      refine ⟨by simp, .inl ⟨_, _, rfl, run_takeDeferred HD2.out.1, ?_⟩⟩
      refine ⟨_, results_tmp rfl _ _ _, ?_, ?_⟩
      · rw [HTX.out]; simp
      · have h1 : Below w.heap.size w W2 := HV.out.2.1.trans (HD2.out.2.mono HV.out.2.1.size)
        exact h1.trans (belowK_b (w := w) (Nat.le_refl _) W2 W0.heap.size _ _ (Nat.le_trans HV.out.2.1.size HW0V.out) HD2.out.1 rfl rfl)
    | true =>
      have HLB := Lib.hid (show ∀ x, x ∈ L0 ++ [45] → x < 256 from fun x hx => by
        rcases List.mem_append.1 hx with h | h
        · exact HLB0.out x h
        · rw [List.mem_singleton.1 h]; decide)
      have HTX := Lib.hid (show textB B true true m = ⟨((L0 ++ [45]).reverse.map UInt8.ofNat).toArray⟩ by rw [textB, textL, if_neg h0, HLL.out.1]; simp)
      obtain ⟨i0, hi, hz0, hz1, hz2⟩ := info_parts infoByte
      have HI := Lib.hid (And.intro hi (And.intro hz0 (And.intro hz1 hz2)))
      have hlm := HLL.out.2.2
      have hbs := HC.out.2.2.1.size
      clear hi hz0 hz1 hz2
      gi_wp2_with (gi_at_builtin; refine wpListIn_append_own _ rfl (.tmp 30) (.tmp 31) 170 rfl (V.heap.size + 1) 5 i0 (.int .u8 0) 1 1 Tryz.underlying170 HI.out.1 HI.out.2.1 HI.out.2.2.1 HI.out.2.2.2 rfl (by decide) (.slice (some ⟨g', 0, none⟩) L0.length cap') L0.length (bvals L0) rfl (HC.out.2.1.alloc _) ⟨W.heap.size, 0, none⟩ 1 1 [.int .u8 (45 : Int)] rfl rfl (fun j u hj => one_new_cell hj) (fun u hu => by simp at hu; rw [hu]; rfl) (by simp only [maxLen]; omega) (by omega) (by simp; have := lt_of_block HC.out.1; omega) ?_)
      intro v' w1 ho' hg' _
      have hnx := got_next (B := W0.heap.size) (x := 45) HC.out.1 HC.out.2.1 HC.out.2.2.1 ho' hg'
      have hbx := got_box HC.out.1 HC.out.2.1 hg'
      have hcb := cell_of_one hbx
      have hfb := free_of_one hbx
      obtain ⟨gg, cc, rfl, hg1, hg2, hg3, hg4⟩ := ownsB_slice ho' (by omega)
      obtain ⟨kf, kt, ⟨v2, hc1, ho1⟩, hb1⟩ := hnx
      have hv2 : v2 = Value.slice (some ⟨gg, 0, none⟩) (L0.length + 1) cc := by
        have h1 := hc1.symm.trans (one_setCell hbx)
        simp only [Option.some.injEq, Obj.cells.injEq, Array.mk.injEq, List.cons.injEq, and_true] at h1
        exact h1
      subst hv2
      rw [List.length_append, List.length_singleton] at ho1
      have hD1 := kf.same _ _ (Nat.le_refl _) HC.out.2.2.2 rfl
      clear kf kt ho' hg' hbx HC HG HI hcell
      have hrv := reverse_any (V.heap.size + 1) gg (L0.length + 1) cc (L0 ++ [45]) (w1.setCell ⟨V.heap.size, 0, none⟩ (.slice (some ⟨gg, 0, none⟩) (L0.length + 1) cc)) (by simp) ho1 (by omega) hg3 hg4
      have HRV := Lib.hid hrv
      have hcell1 := cell_of_one hc1
      have hgD : W0.heap.size ≠ gg := by
        intro e
        obtain ⟨_, ⟨h, _⟩ | ⟨g, cap, cur, h, _, hg', _⟩⟩ := ho1
        · cases h
        · simp only [Value.slice.injEq, Option.some.injEq, Addr.mk.injEq, and_true, true_and] at h
          obtain ⟨rfl, -⟩ := h
          have h3 : (some (Obj.deferred (some [])) : Option Obj) = some (.cells cur 5 (0, 0)) := by rw [← hD1, e]; exact hg'
          cases h3
      have HC1 := Lib.hid (And.intro hc1 (And.intro hb1 (And.intro hD1 (And.intro hg1 hgD))))
      clear hrv hc1 ho1 hb1 hD1 hg1 hg2 hg3 hg4 hgD
      gi_wp2_with fail
      refine ⟨trivial, (callsIn_wide.2 HRV.out).mono ?_⟩
      rintro e W2 ⟨⟨u, rfl⟩, ho2, hgr2⟩
      have hbx : W2.heap[V.heap.size]? = some (Obj.cells #[.slice (some ⟨gg, 0, none⟩) (L0.length + 1) cc] 170 (0, 0)) :=
        (hgr2.block _ (lt_of_block HC1.out.1) (by intro e; have := HC1.out.2.2.2.1; cases e; omega)).trans HC1.out.1
      have hcell2 := cell_of_one hbx
      have hD2 : W2.heap[W0.heap.size]? = some (.deferred (some [])) :=
        (hgr2.block _ (Array.getElem?_eq_some_iff.1 HC1.out.2.2.1).1 (by intro e; cases e; exact HC1.out.2.2.2.2 rfl)).trans HC1.out.2.2.1
      have hB2 : Below V.heap.size V W2 := by
        have h1 := HC1.out.2.1
        refine ⟨hgr2.os.trans h1.os, hgr2.tape.trans h1.tape, hgr2.output.trans h1.output, Nat.le_trans h1.size hgr2.size, fun q hq => ?_⟩
        rw [← h1.block q hq]
        exact hgr2.block q (Nat.lt_of_lt_of_le hq h1.size) (by intro e; have := HC1.out.2.2.2.1; cases e; omega)
      have hcv : (convert 170 9 (.slice (some ⟨gg, 0, none⟩) (L0.length + 1) cc)).run Tryz.prog W2 = .ok (.string ⟨((L0 ++ [45]).reverse.map UInt8.ofNat).toArray⟩) W2 := by
        have hlen : ((L0 ++ [45]).reverse.map UInt8.ofNat).length = (L0.length + 1) := by simp
        have := run_convert_bytes_back W2 170 9 5 ⟨gg, 0, none⟩ cc ((L0 ++ [45]).reverse.map UInt8.ofNat) Tryz.underlying170 Tryz.underlying5 Tryz.underlying9 (fun j hj => by
          have hj2 : j < (L0 ++ [45]).reverse.length := by simpa using hj
          have hc := (ho2.cellAt j (by simp at hj2; omega)).trans (bvals_get hj2)
          have hb : (L0 ++ [45]).reverse.getD j 0 < 256 := by
            rw [List.getD_eq_getElem?_getD, List.getElem?_eq_getElem hj2]
            exact HLB.out _ (List.mem_reverse.1 (List.getElem_mem hj2))
          have e : (L0 ++ [45]).reverse.getD j 0 = ((L0 ++ [45]).reverse[j]'hj2) := by rw [List.getD_eq_getElem?_getD, List.getElem?_eq_getElem hj2]; rfl
          rw [addr_add, hc, List.getElem_map, e, byte_nat (by rw [← e]; exact hb)])
        rw [hlen] at this
        exact this
      have HD2 := Lib.hid (And.intro hD2 hB2)
      clear hbx hD2 hB2 ho2 hgr2 HRV hcell1
      gi_wp2_with fail
      refine ⟨by simp, .inl ⟨_, _, rfl, run_takeDeferred HD2.out.1, ?_⟩⟩
      refine ⟨_, results_tmp rfl _ _ _, ?_, ?_⟩
      · rw [HTX.out]; simp
      · have h1 : Below w.heap.size w W2 := HV.out.2.1.trans (HD2.out.2.mono HV.out.2.1.size)
        exact h1.trans (belowK_b (w := w) (Nat.le_refl _) W2 W0.heap.size _ _ (Nat.le_trans HV.out.2.1.size HW0V.out) HD2.out.1 rfl rfl)

end Go.Proofs.YtkbghamkalidcaaGreat
