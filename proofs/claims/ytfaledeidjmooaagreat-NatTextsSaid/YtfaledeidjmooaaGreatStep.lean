/-
  What the reference's Step and Parse do. Conditions: those that each theorem names.
-/
import Derived.Test.YtfaledeidjmooaaGreatRefTrim
import Derived.Test.YtfaledeidjmooaaGreatParseAny
import Derived.Laws.Rows
namespace Go.Proofs.YtfaledeidjmooaaGreat
open Go.RowKit

theorem ref_step_next {xs zs : List Nat} {k c d s : Nat} (hk : k < xs.length) (hl : zs.length = k) (hs : s = 10 * xs.getD k 0 + c) (hv : Nl.val zs + 4294967296 ^ k * c = 10 * Nl.val (xs.take k) + d) :
    Nl.val (zs ++ [s % 4294967296]) + 4294967296 ^ (k + 1) * (s / 4294967296) = 10 * Nl.val (xs.take (k + 1)) + d := by
  rw [val_snoc, hl, Nl.val_take_succ _ _ hk, Nat.pow_succ]
  have h1 := Nat.mod_add_div s 4294967296
  have h2 : 4294967296 ^ k * (s % 4294967296) + 4294967296 ^ k * 4294967296 * (s / 4294967296) = 4294967296 ^ k * s := by
    rw [Nat.mul_assoc, ← Nat.mul_add, h1]
  rw [hs, Nat.mul_add] at h2
  rw [hs]
  have h3 : 10 * (4294967296 ^ k * xs.getD k 0) = 4294967296 ^ k * (10 * xs.getD k 0) := Nat.mul_left_comm _ _ _
  rw [Nat.mul_add, h3]
  omega

set_option maxHeartbeats 2000000 in
theorem refStep_any (va : Value) (m d : Nat) (w : World) (ha : At w va (Nl.limbs m)) (hla : (Nl.limbs m).length ≤ 100000) (hd : d ≤ 10) :
    Calls Tryz.prog 89 #[va, .int .u64 d] w fun e w' => (∃ v, e = .returned v ∧ IsN w' v (10 * m + d)) ∧ Below w.heap.size w w' := by
  obtain ⟨i0, hi, hz0, hz1, hz2⟩ := info_parts infoWord4
  have HI := Lib.hid (And.intro hi (And.intro hz0 (And.intro hz1 hz2)))
  obtain ⟨a, ca, rfl, fa⟩ := ha.form
  have FA := Lib.hid fa
  clear ha fa hi hz0 hz1 hz2
  go_enter Tryz.func89, Tryz.ntmps89
  go_wp2_with fail
  go_loopw [5, 6, 7] (fun v c i wr => ∃ (k C : Nat) (zs : List Nat), k ≤ (Nl.limbs m).length ∧ i = .int .i64 k ∧ c = .int .u64 (C : Int) ∧ C ≤ 10 ∧ Hid (zs.length = k) ∧ Hid (Nl.Small zs) ∧ Hid (wr.ownsRow w.heap.size 59 1 v k (vals zs)) ∧ Hid (Below w.heap.size w wr) ∧
      Hid (Nl.val zs + 4294967296 ^ k * C = 10 * Nl.val ((Nl.limbs m).take k) + d)) (fun _ _ i _ => ((Nl.limbs m).length - (intOf i).toNat))
  case atStart => exact ⟨0, d, [], by omega, rfl, rfl, hd, rfl, Nl.small_nil, World.ownsRow_nil _ _ _ _, Below.refl _ _, by simp [Hid]⟩
  case round =>
    obtain ⟨k, C, zs, hk, rfl, rfl, hC, hlz, hsm, ho, hbel, hv⟩ := hrel
    by_cases hlt : k < (Nl.limbs m).length
    · rcases FA.out with fa | ⟨ba, oa, rfl, -, hca, -, hba, hcx⟩
      · rw [fa] at hlt; simp at hlt
      obtain ⟨x, hx⟩ : ∃ x, x = (Nl.limbs m).getD k 0 := ⟨_, rfl⟩
      have hx2 : x < 4294967296 := by rw [hx]; exact (Nl.limbs_small m).getD k
      have cx : wr.cell? ⟨ba, oa + k, none⟩ = some (.int .u32 (x : Int)) := by rw [hx]; exact (hbel.out.cell (p := ⟨ba, oa + k, none⟩) hba).trans (hcx k hlt)
      have Hx := Lib.hid hx
      have e1 : ((x : Int) * 10 + C) % 4294967296 = (((10 * x + C) % 4294967296 : Nat) : Int) := by omega
      have e2 : ((x : Int) * 10 + C) / 4294967296 = (((10 * x + C) / 4294967296 : Nat) : Int) := by omega
      have HE := Lib.hid (And.intro e1 e2)
      clear hx hcx e1 e2
      go_wp2_with (at_builtin; refine wpList_append_own _ rfl (.tmp 24) (.tmp 27) 23 rfl w.heap.size 59 i0 (.int .u32 0) 1 4 Tryz.underlying23 HI.out.1 HI.out.2.1 HI.out.2.2.1 HI.out.2.2.2 rfl (by decide) _ k (vals zs) rfl (ho.out.alloc _) ⟨wr.heap.size, 0, none⟩ 1 1 [.int .u32 (((x : Int) * 10 + C) % 4294967296)] rfl rfl ?_ ?_ ?_ ?_ ?_ ?_)
      · intro j u hj
        exact one_new_cell hj
      · intro u hu
        simp at hu
        rw [hu]; rfl
      · simp only [maxLen]; omega
      · omega
      · have := hbel.out.size; simp; omega
      intro v' w1 ho' hg' _
      rw [HE.out.1, ← vals_snoc] at ho'
      have hbel' := grow_below hbel.out ho.out hg'
      have HO := Lib.hid ho'
      have HBel := Lib.hid hbel'
      clear ho' hg' hbel' ho
      go_wp2_with fail
      go_roundw
      case rel =>
        refine ⟨k + 1, (10 * x + C) / 4294967296, zs ++ [(10 * x + C) % 4294967296], by omega, by go_num, by rw [← HE.out.2], by omega, ?_, small_snoc hsm.out (Nat.mod_lt _ (by decide)), HO.out, HBel.out, ?_⟩
        · rw [Hid, List.length_append, hlz.out]; rfl
        · exact ref_step_next hlt hlz.out (by rw [Hx.out]) hv.out
      case measure => simp [intOf] <;> omega
    · have hkl : k = (Nl.limbs m).length := by omega
      have HK := Lib.hid hkl
      clear hkl
      have t1 : decide (k < (Nl.limbs m).length) = false := decide_eq_false hlt
      go_wp2_with (at_builtin; refine wpList_append_own _ rfl (.tmp 31) (.tmp 34) 23 rfl w.heap.size 59 i0 (.int .u32 0) 1 4 Tryz.underlying23 HI.out.1 HI.out.2.1 HI.out.2.2.1 HI.out.2.2.2 rfl (by decide) _ k (vals zs) rfl (ho.out.alloc _) ⟨wr.heap.size, 0, none⟩ 1 1 [.int .u32 (C : Int)] rfl rfl ?_ ?_ ?_ ?_ ?_ ?_)
      · intro j u hj
        exact one_new_cell hj
      · intro u hu
        simp at hu
        rw [hu]; rfl
      · simp only [maxLen]; omega
      · omega
      · have := hbel.out.size; simp; omega
      intro v' w1 ho' hg' _
      rw [← vals_snoc] at ho'
      have hbel' := grow_below hbel.out ho.out hg'
      have hl1 : k + 1 = (zs ++ [C]).length := by rw [List.length_append, hlz.out]; rfl
      rw [hl1] at ho'
      have htr := refTrim_owns w.heap.size _ (zs ++ [C]) w1 ho' (by rw [← hl1]; omega)
      have hend : Nl.trim (zs ++ [C]) = Nl.limbs (10 * m + d) := by
        rw [Nl.trim_eq (small_snoc hsm.out (by omega)), val_snoc, hlz.out, hv.out, HK.out, List.take_of_length_le (Nat.le_refl _), Nl.val_limbs]
      rw [hend] at htr
      have HT := Lib.hid htr
      have HBel := Lib.hid hbel'
      clear ho' hg' hbel' ho htr hend hl1
      go_wp2_with fail
      go_at_call 66
      refine HT.out.mono ?_
      rintro e w2 ⟨⟨u, rfl, hu⟩, hb2⟩
      have HU := Lib.hid hu
      have HB2 := Lib.hid (HBel.out.trans (hb2.mono HBel.out.size))
      clear hu hb2
      go_wp2_with fail
      go_ret
      exact ⟨⟨u, rfl, HU.out.at⟩, HB2.out⟩

/-- what the reference's parser gives -/
def RefParsed (w w' : World) (e : Ending) (l : List Nat) : Prop :=
  (∃ v, e = .returned (.agg #[v, .int .i64 (parseK l)]) ∧ (parseK l = 0 → IsN w' v (decL l)) ∧ (parseK l ≠ 0 → v = .slice none 0 0)) ∧ Below w.heap.size w w'

theorem below_al (w : World) (o : Obj) : Below w.heap.size w (w.alloc o) := (Below.refl _ _).alloc (Nat.le_refl _) _
theorem parsed_err (bs : ByteArray) (w : World) (k : Int) (hk : parseK (dl bs) = k) (h0 : k ≠ 0) :
    RefParsed w (w.alloc (.cells #[.slice none 0 0, .int .i64 k] 51)) (.returned (.agg #[.slice none 0 0, .int .i64 k])) (dl bs) :=
  ⟨⟨_, by rw [hk], fun h => absurd (hk ▸ h) h0, fun _ => rfl⟩, below_al w _⟩

theorem box_set {w : World} {g : Nat} {T : TypeId} {a b : Value} (a' b' : Value) (h : w.heap[g]? = some (.cells #[a, b] T (0, 0))) : ((w.setCell ⟨g, 0, none⟩ a').setCell ⟨g, 1, none⟩ b').heap[g]? = some (.cells #[a', b'] T (0, 0)) := by
  have h1 := heap_setCell_same w g 0 _ _ a' h
  have h2 := heap_setCell_same _ g 1 _ _ b' h1
  exact h2
theorem at_box {w : World} {g : Nat} {T : TypeId} {p : Option Addr} {l c : Nat} {k : Int} {v : Value} {xs : List Nat} (a' b' : Value) (h : At w v xs) (hbx : w.heap[g]? = some (.cells #[.slice p l c, .int .i64 k] T (0, 0))) :
    At ((w.setCell ⟨g, 0, none⟩ a').setCell ⟨g, 1, none⟩ b') v xs := by
  rcases h with h | ⟨b, off, cap, h1, h2, h3, h4, h5, h6⟩
  · exact .inl h
  · refine .inr ⟨b, off, cap, h1, h2, h3, h4, by simpa [World.setCell] using h5, fun i hi => ?_⟩
    have hc := h6 i hi
    by_cases hb : b = g
    · subst hb
      rw [cell_of_row w b (off + i) _ _ _ hbx] at hc
      match hj : off + i with
      | 0 => rw [hj] at hc; simp at hc
      | 1 => rw [hj] at hc; simp at hc
      | j + 2 => rw [hj] at hc; simp at hc
    · have ho : Only g w ((w.setCell ⟨g, 0, none⟩ a').setCell ⟨g, 1, none⟩ b') := grown_trans (Only.setCell g 0 a' w) (Only.setCell g 1 b' _)
      exact ho.cell hc (by simpa using hb)
theorem parsed_box {bs : ByteArray} {w wr : World} {v : Value} {k : Int} (hb : Below w.heap.size w wr) (hk : parseK (dl bs) = k) (hv : k = 0 → IsN ((wr.setCell ⟨w.heap.size, 0, none⟩ v).setCell ⟨w.heap.size, 1, none⟩ (.int .i64 k)) v (decL (dl bs))) (hv2 : k ≠ 0 → v = .slice none 0 0) :
    RefParsed w ((wr.setCell ⟨w.heap.size, 0, none⟩ v).setCell ⟨w.heap.size, 1, none⟩ (.int .i64 k)) (.returned (.agg #[v, .int .i64 k])) (dl bs) :=
  ⟨⟨v, by rw [hk], fun h => hv (hk ▸ h), fun h => hv2 (hk ▸ h)⟩, (hb.setCell (p := ⟨w.heap.size, 0, none⟩) (Nat.le_refl _) _).setCell (p := ⟨w.heap.size, 1, none⟩) (Nat.le_refl _) _⟩

theorem isNum_false {l : List Nat} (h : l = [] ∨ (1 < l.length ∧ l.getD 0 0 = 48) ∨ l.all isDig = false) : isNum l = false := by
  rcases h with h | ⟨h1, h2⟩ | h
  · rw [h]; rfl
  · have h3 : l ≠ [48] := fun h => by rw [h] at h1; simp at h1
    rw [isNum, h2, decide_eq_false h3]; simp
  · rw [isNum, h]; rfl
theorem isNum_true {l : List Nat} (h0 : 0 < l.length) (h1 : ¬ (1 < l.length ∧ l.getD 0 0 = 48)) (h2 : l.all isDig = true) : isNum l = true := by
  rw [isNum, h2, Bool.true_and, Bool.or_eq_true]
  by_cases h : l.getD 0 0 = 48
  · left
    have hl : l.length = 1 := by
      apply Classical.byContradiction
      intro hc
      exact h1 ⟨by omega, h⟩
    obtain ⟨x, rfl⟩ := List.length_eq_one_iff.1 hl
    simp at h
    rw [h]; rfl
  · right
    have h3 : l ≠ [] := fun h => by rw [h] at h0; simp at h0
    rw [decide_eq_true h3, decide_eq_true h]; rfl

set_option maxHeartbeats 2000000 in
theorem refParse_any (bs : ByteArray) (w : World) (hl : bs.size ≤ 9223372036854775807) :
    Calls Tryz.prog 44 #[.string bs] w fun e w' => RefParsed w w' e (dl bs) := by
  by_cases hsz : bs.size ≤ 20000
  · have e0 : decide ((bs.size : Int) > 20000) = false := decide_eq_false (by omega)
    have hK : isNum (dl bs) = false → parseK (dl bs) = 6 := fun h => by rw [parseK, if_pos (by rw [dl_length]; exact hsz), if_neg (by rw [h]; decide)]
    have HKF := Lib.hid hK
    have hE := dl_nil bs
    clear hK
    by_cases h0 : bs.size = 0
    · have hd : dl bs = [] := List.eq_nil_of_length_eq_zero (by rw [dl_length]; exact h0)
      rw [decide_eq_true hd] at hE
      have HP := Lib.hid (parsed_err bs w 6 (HKF.out (isNum_false (.inl hd))) (by decide))
      clear hd
      go_enter Tryz.func44, Tryz.ntmps44
      go_wp2_with fail
      refine bodyPost_ret (v := .agg #[.slice none 0 0, .int .i64 6]) (results_cell_row Tryz.results44 _ _ w.heap.size 51 _ (0, 0) _ rfl (heap_alloc_new _ _) Tryz.underlying51 rfl (by kernel_rfl)) rfl ?_
      exact HP.out
    · have h0s : 0 < bs.size := by omega
      rw [decide_eq_false (fun h => by rw [← dl_length, h] at h0; simp at h0)] at hE
      have hg := dl_get bs 0 h0s
      by_cases hbad : bs[0].toNat = 48 ∧ 1 < bs.size
      · obtain ⟨hb1, hb2⟩ := hbad
        have e1 : ((bs[0].toNat : Int) == 48) = true := by rw [beq_iff_eq]; omega
        have e2 : decide (1 < (bs.size : Int)) = true := decide_eq_true (by omega)
        have HP := Lib.hid (parsed_err bs w 6 (HKF.out (isNum_false (.inr (.inl ⟨by rw [dl_length]; exact hb2, by rw [← hg, hb1]⟩)))) (by decide))
        clear hg hb1
        go_enter Tryz.func44, Tryz.ntmps44
        go_wp2_with fail
        refine bodyPost_ret (v := .agg #[.slice none 0 0, .int .i64 6]) (results_cell_row Tryz.results44 _ _ w.heap.size 51 _ (0, 0) _ rfl (heap_alloc_new _ _) Tryz.underlying51 rfl (by kernel_rfl)) rfl ?_
        exact HP.out
      · have hgo : ∀ {Q : Prop}, ((((bs[0].toNat : Int) == 48) = false) → Q) → ((((bs[0].toNat : Int) == 48) = true) → (decide (1 < (bs.size : Int)) = false) → Q) → Q := fun f g => by
          by_cases h : bs[0].toNat = 48
          · exact g (by rw [beq_iff_eq]; omega) (decide_eq_false (fun h2 => hbad ⟨h, by omega⟩))
          · exact f (by rw [beq_eq_false_iff_ne]; omega)
        have HNB := Lib.hid (show ¬ (1 < (dl bs).length ∧ (dl bs).getD 0 0 = 48) from fun h => hbad ⟨by rw [hg]; exact h.2, by rw [← dl_length]; exact h.1⟩)
        clear hbad hg
        refine hgo (fun e1 => ?_) (fun e1 e2 => ?_)
        all_goals clear hgo
        all_goals
          go_enter Tryz.func44, Tryz.ntmps44
          go_wp2_with fail
          obtain ⟨w1, hw1⟩ : ∃ w1, w1 = w.alloc (.cells #[.slice none 0 0, .int .i64 0] 51) := ⟨_, rfl⟩
          rw [← hw1]
          have hbox : w1.heap[w.heap.size]? = some (.cells #[.slice none 0 0, .int .i64 0] 51 (0, 0)) := by rw [hw1]; exact heap_alloc_new _ _
          have hb1 : Below w.heap.size w w1 := by rw [hw1]; exact below_al w _
          have HBX := Lib.hid hbox
          have HB1 := Lib.hid hb1
          clear hw1 hbox hb1
          go_loopw [3] (fun i wr => ∃ k : Nat, k ≤ bs.size ∧ i = .int .i64 k ∧ Hid (∀ j, j < k → isDig ((dl bs).getD j 0) = true) ∧ wr = w1) (fun i _ => bs.size - (intOf i).toNat)
          case atStart => exact ⟨0, by omega, rfl, fun j hj => by omega, rfl⟩
          case round =>
            obtain ⟨k, hk, rfl, hd, rfl⟩ := hrel
            by_cases hlt : k < bs.size
            · have hg := dl_get bs k hlt
              have hmem : (dl bs).getD k 0 ∈ dl bs := by
                rw [Nl.getD_lt (by rw [dl_length]; exact hlt)]; exact List.getElem_mem _
              by_cases hdk : 48 ≤ bs[k].toNat ∧ bs[k].toNat ≤ 57
              · obtain ⟨h48, h57⟩ := hdk
                have t1 : decide ((bs[k].toNat : Int) < 48) = false := decide_eq_false (by omega)
                have t2 : decide ((bs[k].toNat : Int) > 57) = false := decide_eq_false (by omega)
                have HD := Lib.hid (show isDig ((dl bs).getD k 0) = true by rw [isDig, ← hg, decide_eq_true h48, decide_eq_true h57]; rfl)
                clear hg hmem
                go_wp2_with fail
                go_roundw
                case rel =>
                  refine ⟨k + 1, by omega, by go_num, fun j hj => ?_, trivial⟩
                  rcases Nat.lt_or_eq_of_le (Nat.le_of_lt_succ hj) with hj | rfl
                  · exact hd.out j hj
                  · exact HD.out
                case measure => simp [intOf] <;> omega
              · have c0 := cell_of_row _ _ 0 _ _ (0, 0) HBX.out
                have c1 := cell_of_row _ _ 1 _ _ (0, 0) HBX.out
                have f0 := frozen_of_row _ _ 0 _ _ HBX.out
                have f1 := frozen_of_row _ _ 1 _ _ HBX.out
                have hf : isDig ((dl bs).getD k 0) = false := by
                  rw [isDig, ← hg]
                  by_cases h48 : 48 ≤ bs[k].toNat
                  · rw [decide_eq_false (fun h => hdk ⟨h48, h⟩), Bool.and_false]
                  · rw [decide_eq_false h48, Bool.false_and]
                have HP := Lib.hid (HKF.out (isNum_false (.inr (.inr (List.all_eq_false.2 ⟨_, hmem, by rw [hf]; decide⟩)))))
                clear hf hmem hg
                by_cases h48 : bs[k].toNat < 48
                · have t1 : decide ((bs[k].toNat : Int) < 48) = true := decide_eq_true (by omega)
                  clear hdk
                  go_wp2_with fail
                  refine bodyPost_ret (v := .agg #[.slice none 0 0, .int .i64 6]) (results_cell_row Tryz.results44 _ _ w.heap.size 51 _ (0, 0) _ rfl (box_set _ _ HBX.out) Tryz.underlying51 rfl (by kernel_rfl)) rfl ?_
                  exact parsed_box HB1.out HP.out (fun h => absurd h (by decide)) (fun _ => rfl)
                · have t1 : decide ((bs[k].toNat : Int) < 48) = false := decide_eq_false (by omega)
                  have t2 : decide ((bs[k].toNat : Int) > 57) = true := decide_eq_true (by omega)
                  clear hdk
                  go_wp2_with fail
                  refine bodyPost_ret (v := .agg #[.slice none 0 0, .int .i64 6]) (results_cell_row Tryz.results44 _ _ w.heap.size 51 _ (0, 0) _ rfl (box_set _ _ HBX.out) Tryz.underlying51 rfl (by kernel_rfl)) rfl ?_
                  exact parsed_box HB1.out HP.out (fun h => absurd h (by decide)) (fun _ => rfl)
            · have hall : (dl bs).all isDig = true := by
                rw [List.all_eq_true]
                intro x hx
                obtain ⟨j, hj, rfl⟩ := List.getElem_of_mem hx
                have := hd.out j (by rw [dl_length] at hj; omega)
                rwa [Nl.getD_lt hj] at this
              have HALL := Lib.hid hall
              have HN := Lib.hid (isNum_true (by rw [dl_length]; omega) HNB.out hall)
              clear hall
              go_wp2_with fail
              go_loopw [4, 5] (fun v i wr => ∃ k : Nat, k ≤ bs.size ∧ i = .int .i64 k ∧ Hid (At wr v (Nl.limbs (decL ((dl bs).take k)))) ∧ Hid ((Nl.limbs (decL ((dl bs).take k))).length ≤ 1024) ∧ Hid (wr.heap[w.heap.size]? = some (.cells #[.slice none 0 0, .int .i64 0] 51 (0, 0))) ∧ Hid (Below w.heap.size w wr)) (fun _ i _ => bs.size - (intOf i).toNat)
              case atStart => exact ⟨0, by omega, rfl, .inl ⟨rfl, by rw [List.take_zero]; exact Nl.limbs_zero⟩, by rw [Hid, List.take_zero]; simp [decL, Nl.limbs_zero], HBX.out, HB1.out⟩
              case round =>
                obtain ⟨k, hk, rfl, hat, hfit, hbx, hbel⟩ := hrel
                by_cases hlt : k < bs.size
                · have hg := dl_get bs k hlt
                  have hdg : isDig (bs[k].toNat) = true := by
                    rw [hg]
                    have h1 := HALL.out
                    rw [List.all_eq_true] at h1
                    apply h1
                    rw [Nl.getD_lt (by rw [dl_length]; exact hlt)]; exact List.getElem_mem _
                  have h48 : 48 ≤ bs[k].toNat := by simp [isDig] at hdg; exact hdg.1
                  have h57 : bs[k].toNat ≤ 57 := by simp [isDig] at hdg; exact hdg.2
                  obtain ⟨pv, cv, hve, -⟩ := hat.out.form
                  subst hve
                  have hnew : 10 * decL ((dl bs).take k) + (bs[k].toNat - 48) = decL ((dl bs).take (k + 1)) := by
                    rw [take_snoc_getD (by rw [dl_length]; exact hlt), decL_snoc, ← hg, Nat.mul_comm]
                  have hst : Calls Tryz.prog 89 #[.slice pv (Nl.limbs (decL ((dl bs).take k))).length cv, .int .u64 ((bs[k].toNat : Int) - 48)] wr fun e w' => (∃ v, e = .returned v ∧ IsN w' v (decL ((dl bs).take (k + 1)))) ∧ Below wr.heap.size wr w' := by
                    rw [show ((bs[k].toNat : Int) - 48) = ((bs[k].toNat - 48 : Nat) : Int) by omega, ← hnew]
                    exact refStep_any _ _ _ wr hat.out (by have := hfit.out; omega) (by omega)
                  have HST := Lib.hid hst
                  have hle : decL ((dl bs).take (k + 1)) ≤ decL (dl bs) := by
                    have h1 := decL_append ((dl bs).take (k + 1)) ((dl bs).drop (k + 1))
                    rw [List.take_append_drop] at h1
                    rw [h1]
                    have h2 : 1 * decL ((dl bs).take (k + 1)) ≤ 10 ^ ((dl bs).drop (k + 1)).length * decL ((dl bs).take (k + 1)) := Nat.mul_le_mul_right _ (Nat.pow_pos (by decide))
                    omega
                  have HLE := Lib.hid hle
                  clear hst hnew hg hdg hle
                  go_wp2_with fail
                  go_at_call 89
                  refine HST.out.mono ?_
                  rintro e w4 ⟨⟨v4, rfl, hv4⟩, hb4⟩
                  have B4 := Lib.hid (hbel.out.trans (hb4.mono hbel.out.size))
                  have BX4 := Lib.hid ((hb4.block _ (lt_of_block hbx.out)).trans hbx.out)
                  have V4 := Lib.hid (show At w4 v4 _ from hv4)
                  have hfa := fits_any v4 _ w4 hv4
                  clear hv4 hb4 HST
                  by_cases hf4 : (Nl.limbs (decL ((dl bs).take (k + 1)))).length ≤ 1024
                  · rw [decide_eq_true hf4] at hfa
                    have HFA := Lib.hid hfa
                    have HF4 := Lib.hid hf4
                    clear hfa hf4
                    go_wp2_with fail
                    go_at_call 65
                    refine HFA.out.mono ?_
                    rintro e w5 ⟨rfl, rfl⟩
                    go_wp2_with fail
                    go_roundw
                    case rel => exact ⟨k + 1, by omega, by go_num, V4.out, HF4.out, BX4.out, B4.out⟩
                    case measure => simp [intOf] <;> omega
                  · rw [decide_eq_false hf4] at hfa
                    have HFA := Lib.hid hfa
                    have HP := Lib.hid (show parseK (dl bs) = 2 by
                      rw [parseK, if_pos (by rw [dl_length]; exact hsz), if_pos HN.out, if_neg (fun h => hf4 (Nat.le_trans (Nl.limbs_mono HLE.out) h))])
                    have c0 := cell_of_row _ _ 0 _ _ (0, 0) BX4.out
                    have c1 := cell_of_row _ _ 1 _ _ (0, 0) BX4.out
                    have f0 := frozen_of_row _ _ 0 _ _ BX4.out
                    have f1 := frozen_of_row _ _ 1 _ _ BX4.out
                    clear hfa hf4
                    go_wp2_with fail
                    go_at_call 65
                    refine HFA.out.mono ?_
                    rintro e w5 ⟨rfl, rfl⟩
                    go_wp2_with fail
                    refine bodyPost_ret (v := .agg #[.slice none 0 0, .int .i64 2]) (results_cell_row Tryz.results44 _ _ w.heap.size 51 _ (0, 0) _ rfl (box_set _ _ BX4.out) Tryz.underlying51 rfl (by kernel_rfl)) rfl ?_
                    exact parsed_box B4.out HP.out (fun h => absurd h (by decide)) (fun _ => rfl)
                · obtain ⟨pv, cv, hve, -⟩ := hat.out.form
                  subst hve
                  have c0 := cell_of_row _ _ 0 _ _ (0, 0) hbx.out
                  have c1 := cell_of_row _ _ 1 _ _ (0, 0) hbx.out
                  have f0 := frozen_of_row _ _ 0 _ _ hbx.out
                  have f1 := frozen_of_row _ _ 1 _ _ hbx.out
                  have hkk : (dl bs).take k = dl bs := List.take_of_length_le (by rw [dl_length]; omega)
                  have HKK := Lib.hid hkk
                  have HP := Lib.hid (show parseK (dl bs) = 0 by
                    have h1 := hfit.out
                    rw [hkk] at h1
                    rw [parseK, if_pos (by rw [dl_length]; exact hsz), if_pos HN.out, if_pos h1])
                  clear hkk
                  go_wp2_with fail
                  refine bodyPost_ret (v := .agg #[.slice pv (Nl.limbs (decL ((dl bs).take k))).length cv, .int .i64 0]) (results_cell_row Tryz.results44 _ _ w.heap.size 51 _ (0, 0) _ rfl (box_set _ _ hbx.out) Tryz.underlying51 rfl (by kernel_rfl)) rfl ?_
                  refine parsed_box hbel.out HP.out (fun _ => ?_) (fun h => absurd rfl h)
                  have h1 := at_box (.slice pv (Nl.limbs (decL ((dl bs).take k))).length cv) (.int .i64 0) hat.out hbx.out
                  rw [HKK.out] at h1 ⊢
                  exact h1
  · have e0 : decide ((bs.size : Int) > 20000) = true := decide_eq_true (by omega)
    have HP := Lib.hid (parsed_err bs w 2 (by rw [parseK, if_neg (by rw [dl_length]; exact hsz)]) (by decide))
    go_enter Tryz.func44, Tryz.ntmps44
    go_wp2_with fail
    refine bodyPost_ret (v := .agg #[.slice none 0 0, .int .i64 2]) (results_cell_row Tryz.results44 _ _ w.heap.size 51 _ (0, 0) _ rfl (heap_alloc_new _ _) Tryz.underlying51 rfl (by kernel_rfl)) rfl ?_
    exact HP.out
end Go.Proofs.YtfaledeidjmooaaGreat
