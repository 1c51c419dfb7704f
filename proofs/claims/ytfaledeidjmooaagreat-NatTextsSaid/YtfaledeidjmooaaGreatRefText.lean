/-
  What the reference's Text does. Conditions: those that each theorem names.
-/
import Derived.Test.YtfaledeidjmooaaGreatShort
import Derived.Test.YtfaledeidjmooaaGreatTextAny
import Derived.Laws.IdiomStrings
namespace Go.Proofs.YtfaledeidjmooaaGreat
open Go.RowKit

def sliceLen : Value → Nat
  | .slice _ l _ => l
  | _ => 0
theorem own_len {base : Nat} {w : World} {v : Value} {n size : Nat} {e : TypeId} {L : List Value} (h : w.ownsRow base e size v n L) : sliceLen v = n := by
  rcases h.2 with ⟨rfl, hn⟩ | ⟨g, cap, cur, rfl, _⟩
  · exact hn.symm
  · rfl
/-- a row of words stays when a row of bytes grows -/
theorem own_grown {base base' : Nat} {wr w1 : World} {v lv : Value} {o : Obj} {n k : Nat} {xs L : List Value} (h : wr.ownsRow base' 59 1 v k xs) (ho : wr.ownsRow base 5 1 lv n L) (hg : (wr.alloc o).grownBy w1 lv.ownBlock) : w1.ownsRow base' 59 1 v k xs := by
  refine (h.alloc o).kept hg ?_
  obtain ⟨_, ⟨rfl, _⟩ | ⟨g, cap, cur, rfl, _, hgc, _⟩⟩ := h
  · exact .inl rfl
  · refine .inr fun e => ?_
    obtain ⟨_, ⟨rfl, _⟩ | ⟨g', cap', cur', rfl, _, hgc', _⟩⟩ := ho
    · cases e
    · have : g = g' := by simpa [Value.ownBlock] using e
      subst this
      rw [hgc] at hgc'
      cases hgc'
/-- one digit more -/
theorem digits_next {m q Q j : Nat} {lst : List Nat} (hd : digitsL m = lst ++ digitsL (q + 10 ^ (j + 1) * Q)) (h : q ≠ 0 ∨ Q ≠ 0) : digitsL m = (lst ++ [48 + q % 10]) ++ digitsL (q / 10 + 10 ^ j * Q) := by
  rw [hd, digits_step h, List.append_assoc]; rfl

set_option maxRecDepth 10000 in
set_option maxHeartbeats 4000000 in
theorem refText_pos (va : Value) (m : Nat) (w : World) (ha : At w va (Nl.limbs m)) (hla : (Nl.limbs m).length ≤ 1000) (h0 : m ≠ 0) :
    Calls Tryz.prog 45 #[va] w fun e w' => e = .returned (.string (textOf m)) ∧ Below w.heap.size w w' := by
  obtain ⟨i0, hi, hz0, hz1, hz2⟩ := info_parts infoByte
  have HI := Lib.hid (And.intro hi (And.intro hz0 (And.intro hz1 hz2)))
  have HA := Lib.hid ha
  obtain ⟨pa, ca, rfl, -⟩ := ha.form
  have hlp := Nl.len_pos h0
  have e0 : (((Nl.limbs m).length : Int) == 0) = false := by rw [beq_eq_false_iff_ne]; omega
  have hdl : (digitsL m).length ≤ 32000 := by
    have h := digits_len (32 * (Nl.limbs m).length) m (by rw [← pow32]; exact Nl.lt_limbs m)
    omega
  have HDL := Lib.hid hdl
  have H0 := Lib.hid h0
  clear ha hi hz0 hz1 hz2 hdl hlp h0
  go_enter Tryz.func45, Tryz.ntmps45
  go_wp2_with fail
  go_loopw [0, 3] (fun av lv wr => ∃ (M : Nat) (lst : List Nat), Hid (At wr av (Nl.limbs M)) ∧ Hid ((Nl.limbs M).length ≤ 1000) ∧ Hid (wr.ownsRow w.heap.size 5 1 lv lst.length (bvals lst)) ∧ Hid (digitsL m = lst ++ digitsL M) ∧ Hid (Below w.heap.size w wr)) (fun _ lv _ => 40000 - sliceLen lv)
  case atStart => exact ⟨m, [], HA.out, hla, World.ownsRow_nil _ _ _ _, rfl, Below.refl _ _⟩
  case round =>
    obtain ⟨M, lst, hat, hlm, ho, hdg, hbel⟩ := hrel
    obtain ⟨pm, cm, hme, -⟩ := hat.out.form
    subst hme
    have hlenL : lst.length ≤ 32000 := by
      have h1 := congrArg List.length hdg.out
      rw [List.length_append] at h1
      have := HDL.out
      omega
    by_cases hM : M = 0
    · have t0 : decide (0 < (Nl.limbs M).length) = false := by rw [hM, Nl.limbs_zero]; rfl
      have hfull : lst = digitsL m := by
        have := hdg.out
        rw [hM, digitsL_zero, List.append_nil] at this
        exact this.symm
      have hpos : 0 < lst.length := by rw [hfull, digitsL_pos H0.out]; simp
      obtain ⟨g, cap, hle, hbg, hgl, hnc, hcm⟩ := owns_slice ho.out hpos
      subst hle
      obtain ⟨n, hn⟩ : ∃ n, n = lst.length := ⟨_, rfl⟩
      have HFU := Lib.hid hfull
      have HN := Lib.hid hn
      have ho1 := ho.out
      rw [← hn] at ho1 hlenL hpos hnc ⊢
      have HO := Lib.hid ho1
      have HW := Lib.hid hbel.out
      clear hfull hn ho1 ho hM hat hdg
      go_wp2_with fail
      go_loopw [7] (fun i wr => ∃ (k : Nat) (C : List Nat), i = .int .i64 k ∧ k ≤ n ∧ Hid (Turned lst C k) ∧ Hid (wr.ownsRow w.heap.size 5 1 (.slice (some ⟨g, 0, none⟩) n cap) n (bvals C)) ∧ Hid (Below w.heap.size w wr)) (fun i _ => n - (intOf i).toNat)
      case atStart => exact ⟨0, lst, rfl, by omega, turned_start lst, HO.out, HW.out⟩
      case round =>
        obtain ⟨k, C, rfl, hk, ht, ho, hb⟩ := hrel
        by_cases hlt : k < n / 2
        · have t1 : decide ((k : Int) < (n : Int) / 2) = true := decide_eq_true (by omega)
          obtain ⟨j, hj⟩ : ∃ j, j = n - 1 - k := ⟨_, rfl⟩
          have hji : (n : Int) - 1 - k = (j : Int) := by omega
          have hjn : j < n := by omega
          have hkn : k < n := by omega
          have hkj : ¬ k = j := by omega
          obtain ⟨x, hx⟩ : ∃ x, x = C.getD k 0 := ⟨_, rfl⟩
          obtain ⟨y, hy⟩ : ∃ y, y = C.getD j 0 := ⟨_, rfl⟩
          have c1 := (ho.out.cellAt k (by omega)).trans (bvals_get (by rw [ht.out.1, ← HN.out]; omega))
          have c2 := (ho.out.cellAt j (by omega)).trans (bvals_get (by rw [ht.out.1, ← HN.out]; omega))
          rw [← hx] at c1
          rw [← hy] at c2
          have f1 := ho.out.frozenAt k
          have f2 := ho.out.frozenAt j
          have HX := Lib.hid (And.intro hx (And.intro hy hj))
          clear hx hy hj
          go_wp2_with fail
          go_roundw
          case rel =>
            refine ⟨k + 1, (C.set k y).set j x, by go_num, by omega, ?_, ?_, ?_⟩
            · have := turned_next ht.out (by rw [← HN.out]; omega)
              rw [← HN.out, ← HX.out.2.2, ← HX.out.1, ← HX.out.2.1] at this
              exact this
            · rw [bvals_set, bvals_set]
              have h1 := ho.out.stored k (.int .u8 (y : Int))
              have h2 := h1.1.stored j (.int .u8 (x : Int))
              exact h2.1
            · exact (hb.out.setCell (p := ⟨g, k, none⟩) hbg _).setCell (p := ⟨g, j, none⟩) hbg _
          case measure => simp [intOf] <;> omega
        · have t1 : decide ((k : Int) < (n : Int) / 2) = false := decide_eq_false (by omega)
          have he := turned_end ht.out (by rw [← HN.out]; omega)
          have HE := Lib.hid he
          have hcv : (convert 66 9 (.slice (some ⟨g, 0, none⟩) n cap)).run Tryz.prog wr = .ok (.string (textOf m)) wr := by
            have hlen : ((digitsL m).reverse.map UInt8.ofNat).length = n := by rw [HN.out, HFU.out]; simp
            have := run_convert_bytes_back wr 66 9 5 ⟨g, 0, none⟩ cap ((digitsL m).reverse.map UInt8.ofNat) Tryz.underlying66 Tryz.underlying5 Tryz.underlying9 (fun j hj => by
              have hj2 : j < (digitsL m).reverse.length := by simpa using hj
              have hcc : C = (digitsL m).reverse := by rw [he, HFU.out]
              have hc := (ho.out.cellAt j (by rw [← hlen]; simpa using hj)).trans (bvals_get (by rw [hcc]; exact hj2))
              rw [hcc] at hc
              have hb : (digitsL m).reverse.getD j 0 < 256 := by
                rw [List.getD_eq_getElem?_getD, List.getElem?_eq_getElem hj2]
                exact digits_small (List.mem_reverse.1 (List.getElem_mem hj2))
              have e : (digitsL m).reverse.getD j 0 = ((digitsL m).reverse[j]'hj2) := by rw [List.getD_eq_getElem?_getD, List.getElem?_eq_getElem hj2]; rfl
              rw [addr_add, hc, List.getElem_map, e, byte_nat (by rw [← e]; exact hb)])
            rw [hlen] at this
            rw [this, textOf, if_neg H0.out]
          clear he
          go_wp2_with fail
          go_ret
          exact ⟨rfl, hb.out⟩
    · have hmp := Nl.len_pos hM
      have t0 : decide (0 < (Nl.limbs M).length) = true := decide_eq_true hmp
      have HM := Lib.hid hM
      obtain ⟨r, hr⟩ : ∃ r, r = M % 1000000000 := ⟨_, rfl⟩
      obtain ⟨Q, hQ⟩ : ∃ Q, Q = M / 1000000000 := ⟨_, rfl⟩
      have hsh := refShort_any _ M 1000000000 wr hat.out (by have := hlm.out; omega) (by decide) (by decide)
      rw [← hr, ← hQ] at hsh
      have hr2 : r < 1000000000 := by omega
      have HRQ := Lib.hid (show M = r + 10 ^ 9 * Q by omega)
      have hrq0 : r ≠ 0 ∨ Q ≠ 0 := by omega
      have HRQ0 := Lib.hid hrq0
      have HQL := Lib.hid (Nat.le_trans (Nl.limbs_mono (show Q ≤ M by omega)) hlm.out)
      have hhead : (Nl.limbs r).getD 0 0 = r := by
        by_cases h : r = 0
        · rw [h, Nl.limbs_zero]; rfl
        · rw [Nl.limbs_pos h]; simp; omega
      have HHD := Lib.hid hhead
      have HSH := Lib.hid hsh
      clear hM hmp hr hQ hsh hrq0 hhead
      go_wp2_with fail
      go_at_call 75
      refine HSH.out.mono ?_
      rintro e w2 ⟨⟨u, v, rfl, hu, hv⟩, hb2⟩
      obtain ⟨pu, cu, hue⟩ := own_form hu
      obtain ⟨pv, cv, hve, -⟩ := (show At w2 v _ from hv).form
      subst hue hve
      have HU := Lib.hid (own_less hu hbel.out.size)
      have HV := Lib.hid (show At w2 _ _ from hv)
      have HO2 := Lib.hid (own_below ho.out hb2)
      have B2 := Lib.hid (hbel.out.trans (hb2.mono hbel.out.size))
      clear hu hv hb2 HSH
      go_upto_region 6 with fail
      obtain ⟨w3, hw3⟩ : ∃ w3, w3 = w2.alloc (.cells #[.slice pu (Nl.limbs Q).length cu, .slice pv (Nl.limbs r).length cv] 42) := ⟨_, rfl⟩
      rw [← hw3]
      have hbx3 : w3.heap[w2.heap.size]? = some (.cells #[.slice pu (Nl.limbs Q).length cu, .slice pv (Nl.limbs r).length cv] 42 (0, 0)) := by rw [hw3]; exact heap_alloc_new _ _
      have hb3 : Below w2.heap.size w2 w3 := by rw [hw3]; exact below_al w2 _
      have c0 := cell_of_row _ _ 0 _ _ (0, 0) hbx3
      have c1 := cell_of_row _ _ 1 _ _ (0, 0) hbx3
      have hav := at_any _ _ 0 w3 (HV.out.below hb3) (Nl.limbs_small r)
      rw [HHD.out] at hav
      have HAV := Lib.hid hav
      have HU3 := Lib.hid (own_below HU.out hb3)
      have HO3 := Lib.hid (own_below HO2.out hb3)
      have B3 := Lib.hid (B2.out.trans (hb3.mono B2.out.size))
      clear hw3 hbx3 hb3 hav HU HV HO2 B2
      go_wp2_with (go_at_call 64; refine HAV.out.mono ?_; rintro e w' ⟨rfl, rfl⟩)
      clear c0 c1 HAV
      go_loopw [3, 5, 6] (fun lv nv i wr => ∃ (j q : Nat) (ls : List Nat), j ≤ 9 ∧ i = .int .i64 j ∧ nv = .int .u64 (q : Int) ∧ q < 1000000000 ∧ Hid (q < 10 ^ (9 - j)) ∧ Hid (ls.length = lst.length + j) ∧ Hid (wr.ownsRow w.heap.size 5 1 lv ls.length (bvals ls)) ∧
          Hid (digitsL m = ls ++ digitsL (q + 10 ^ (9 - j) * Q)) ∧ Hid (j = 0 → q ≠ 0 ∨ Q ≠ 0) ∧ Hid (wr.ownsRow w.heap.size 59 1 (.slice pu (Nl.limbs Q).length cu) (Nl.limbs Q).length (vals (Nl.limbs Q))) ∧ Hid (Below w.heap.size w wr)) (fun _ _ i _ => 9 - (intOf i).toNat)
      case atStart => exact ⟨0, r, lst, by omega, rfl, rfl, hr2, by simpa [Hid] using hr2, rfl, HO3.out, by rw [Hid, ← HRQ.out]; exact hdg.out, fun _ => HRQ0.out, HU3.out, B3.out⟩
      case round =>
        obtain ⟨j, q, ls, hj, rfl, rfl, hq, hqj, hls, ho', hdg', hj0, hat', hb'⟩ := hrel
        have hlsl : ls.length ≤ 32009 := by have := hls.out; omega
        by_cases hj9 : j < 9
        · have t1 : decide ((j : Int) < 9) = true := decide_eq_true (by omega)
          by_cases hq0 : q = 0
          · have t2 : decide (0 < q) = false := decide_eq_false (by omega)
            by_cases hQ0 : Q = 0
            · have t3 : decide (0 < (Nl.limbs Q).length) = false := by rw [hQ0, Nl.limbs_zero]; rfl
              have HDQ := Lib.hid (show digitsL m = ls ++ digitsL Q by
                have h1 := hdg'.out
                rw [hq0, hQ0, Nat.mul_zero] at h1
                rw [hQ0]; exact h1)
              have HJP := Lib.hid (show 0 < j by
                apply Nat.pos_of_ne_zero
                intro h
                rcases hj0.out h with h | h
                · exact h hq0
                · exact h hQ0)
              clear hq0 hQ0
              go_wp2_with fail
              go_roundw
              case rel => exact ⟨Q, ls, (atP_of_owns hat'.out).at, HQL.out, ho'.out, HDQ.out, hb'.out⟩
              case measure =>
                have h1 := own_len ho'.out
                have h2 := own_len ho.out
                have h3 := hls.out
                have h4 := HJP.out
                rw [h1, h2]
                omega
            · have t3 : decide (0 < (Nl.limbs Q).length) = true := decide_eq_true (Nl.len_pos hQ0)
              have HNZ := Lib.hid (show q ≠ 0 ∨ Q ≠ 0 from .inr hQ0)
              clear hQ0 hq0
              go_wp2_with (at_builtin; refine wpList_append_own _ rfl (.tmp 35) (.tmp 40) 66 rfl w.heap.size 5 i0 (.int .u8 0) 1 1 Tryz.underlying66 HI.out.1 HI.out.2.1 HI.out.2.2.1 HI.out.2.2.2 rfl (by decide) _ ls.length (bvals ls) rfl (ho'.out.alloc _) ⟨wr.heap.size, 0, none⟩ 1 1 [.int .u8 (48 + (q : Int) % 10)] rfl rfl ?_ ?_ ?_ ?_ ?_ ?_)
              · intro j u hj
                exact one_new_cell hj
              · intro u hu
                simp at hu
                rw [hu]; rfl
              · simp only [maxLen]; omega
              · omega
              · have := hb'.out.size; simp; omega
              intro v' w1 ho2 hg2 _
              rw [show (48 : Int) + (q : Int) % 10 = ((48 + q % 10 : Nat) : Int) by omega, ← bvals_snoc] at ho2
              have hbel2 := grow_below hb'.out ho'.out hg2
              have hat2 := own_grown hat'.out ho'.out hg2
              have HO2 := Lib.hid ho2
              have HBel2 := Lib.hid hbel2
              have HAT2 := Lib.hid hat2
              clear ho2 hg2 hbel2 hat2
              go_wp2_with fail
              go_roundw
              case rel =>
                refine ⟨j + 1, q / 10, ls ++ [48 + q % 10], by omega, by go_num, by go_num, by omega, ?_, ?_, ?_, ?_, fun h => by omega, HAT2.out, HBel2.out⟩
                · have h1 := hqj.out
                  rw [show 9 - j = 9 - (j + 1) + 1 by omega, Nat.pow_succ] at h1
                  exact Nat.div_lt_of_lt_mul (by rw [Nat.mul_comm]; exact h1)
                · rw [Hid, List.length_append, hls.out]; simp; omega
                · rw [Hid, List.length_append, List.length_singleton]; exact HO2.out
                · have h1 := hdg'.out
                  rw [show 9 - j = 9 - (j + 1) + 1 by omega] at h1
                  exact digits_next h1 HNZ.out
              case measure => simp [intOf] <;> omega
          · have t2 : decide (0 < q) = true := decide_eq_true (by omega)
            have HNZ := Lib.hid (show q ≠ 0 ∨ Q ≠ 0 from .inl hq0)
            clear hq0
            go_wp2_with (at_builtin; refine wpList_append_own _ rfl (.tmp 35) (.tmp 40) 66 rfl w.heap.size 5 i0 (.int .u8 0) 1 1 Tryz.underlying66 HI.out.1 HI.out.2.1 HI.out.2.2.1 HI.out.2.2.2 rfl (by decide) _ ls.length (bvals ls) rfl (ho'.out.alloc _) ⟨wr.heap.size, 0, none⟩ 1 1 [.int .u8 (48 + (q : Int) % 10)] rfl rfl ?_ ?_ ?_ ?_ ?_ ?_)
            · intro j u hj
              exact one_new_cell hj
            · intro u hu
              simp at hu
              rw [hu]; rfl
            · simp only [maxLen]; omega
            · omega
            · have := hb'.out.size; simp; omega
            intro v' w1 ho2 hg2 _
            rw [show (48 : Int) + (q : Int) % 10 = ((48 + q % 10 : Nat) : Int) by omega, ← bvals_snoc] at ho2
            have hbel2 := grow_below hb'.out ho'.out hg2
            have hat2 := own_grown hat'.out ho'.out hg2
            have HO2 := Lib.hid ho2
            have HBel2 := Lib.hid hbel2
            have HAT2 := Lib.hid hat2
            clear ho2 hg2 hbel2 hat2
            go_wp2_with fail
            go_roundw
            case rel =>
              refine ⟨j + 1, q / 10, ls ++ [48 + q % 10], by omega, by go_num, by go_num, by omega, ?_, ?_, ?_, ?_, fun h => by omega, HAT2.out, HBel2.out⟩
              · have h1 := hqj.out
                rw [show 9 - j = 9 - (j + 1) + 1 by omega, Nat.pow_succ] at h1
                exact Nat.div_lt_of_lt_mul (by rw [Nat.mul_comm]; exact h1)
              · rw [Hid, List.length_append, hls.out]; simp; omega
              · rw [Hid, List.length_append, List.length_singleton]; exact HO2.out
              · have h1 := hdg'.out
                rw [show 9 - j = 9 - (j + 1) + 1 by omega] at h1
                exact digits_next h1 HNZ.out
            case measure => simp [intOf] <;> omega
        · have t1 : decide ((j : Int) < 9) = false := decide_eq_false (by omega)
          have HDQ := Lib.hid (show digitsL m = ls ++ digitsL Q by
            have h1 := hdg'.out
            have h2 := hqj.out
            rw [show 9 - j = 0 by omega, Nat.pow_zero] at h1 h2
            rw [show q = 0 by omega, Nat.zero_add, Nat.one_mul] at h1
            exact h1)
          have HJP := Lib.hid (show 0 < j by omega)
          go_wp2_with fail
          go_roundw
          case rel => exact ⟨Q, ls, (atP_of_owns hat'.out).at, HQL.out, ho'.out, HDQ.out, hb'.out⟩
          case measure =>
            have h1 := own_len ho'.out
            have h2 := own_len ho.out
            have h3 := hls.out
            have h4 := HJP.out
            rw [h1, h2]
            omega
end Go.Proofs.YtfaledeidjmooaaGreat
