/-
  What Div, Long, Newton and Blocks do, given the roads. Conditions: those that each theorem names.
-/
import Derived.Test.YtikgfdkaikpmhaaGreatDivC
namespace Go.Proofs.YtikgfdkaikpmhaaGreat
open Go.RowKit

set_option maxHeartbeats 1000000 in
theorem quotient_of0 (va vb : Value) (xs ys : List Nat) (cut : Int) (w : World) (ha : At w va xs) (hb : At w vb ys) (hsx : Nl.Small xs) (hsy : Nl.Small ys) (h1 : -9223372036854775808 ≤ cut) (h2 : cut ≤ 9223372036854775807)
    (hd : validB xs = true → validB ys = true → Nl.val ys ≠ 0 → ∀ w', Below w.heap.size w w' → Calls Tryz.prog 129 #[va, vb, .int .i64 cut] w' fun e w'' => DivOk w' w'' e (Nl.val xs) (Nl.val ys)) :
    Calls Tryz.prog 70 #[.int .i64 0, va, vb, .int .i64 cut] w fun e w' => Pair2 w w' e xs ys (divK 0 cut (Nl.val ys)) (Nl.val xs / Nl.val ys) (Nl.val xs % Nl.val ys) := by
  have hmf : ∀ (fn : Fn) (first cap : Array Value) (w : World), (Instr.makeFunc fn first cap).run Tryz.prog w = .ok (.func fn first cap) w := fun _ _ _ _ => rfl
  have HA := Lib.hid ha
  have HB := Lib.hid hb
  obtain ⟨a, ca, rfl, -⟩ := ha.form
  obtain ⟨b, cb, rfl, -⟩ := hb.form
  have HD := Lib.hid hd
  clear ha hb hd
  go_enter Tryz.func70, Tryz.ntmps70
  go_wp2_with fail
  obtain ⟨W, hW⟩ : ∃ W, W = ((((w.alloc (.cells #[.int .i64 0] 3)).alloc (.cells #[.slice a xs.length ca] 23)).alloc (.cells #[.slice b ys.length cb] 23)).alloc (.cells #[.int .i64 cut] 3)).alloc (.cells #[.slice a xs.length ca, .slice b ys.length cb] 23) := ⟨_, rfl⟩
  rw [← hW]
  obtain ⟨hbl, hsz, c1, c2, c3, c4, c5, c6⟩ := boxes4 w _ _ _ _ _ _ _ _ _ _ _ W hW
  clear hW
  refine (two_two _ _ w W (divK 0 cut (Nl.val ys)) (Nl.val xs / Nl.val ys) (Nl.val xs % Nl.val ys) (w.heap.size + 1 + 1 + 1 + 1) _ _ xs ys hbl (by omega) c5 c6 HA.out HB.out (fun v1 v2 => ?_) (fun _ _ => by kernel_rfl)).mono ?_
  · refine quotient0_does (w.heap.size) _ _ _ _ cut W ⟨c1, c2, c3, c4, by omega, (HA.out.num hsx v1).below hbl, (HB.out.num hsy v2).below hbl, (validB_eq hsx v1).2, (validB_eq hsy v2).2, h1, h2⟩ (fun h0  => fun w' hw' => HD.out v1 v2 h0  w' (hbl.trans (hw'.mono hbl.size)))
  clear c1 c2 c3 c4 c5 c6 hbl hsz HD
  rintro e w1 ⟨c, hc, ⟨u, v, rfl, h2, h3⟩, hb1⟩
  have HR := Lib.hid (And.intro hc (And.intro h2 (And.intro h3 hb1)))
  clear hc h2 h3 hb1
  go_wp2_with fail
  refine bodyPost_ret (v := .tuple #[u, v, .int .i64 c]) (by simp [results, Tryz.results70, go_sem]) rfl ?_
  exact ⟨c, HR.out.1, ⟨u, v, rfl, HR.out.2.1, HR.out.2.2.1⟩, HR.out.2.2.2⟩

set_option maxHeartbeats 1000000 in
theorem quotient_of1 (va vb : Value) (xs ys : List Nat) (cut : Int) (w : World) (ha : At w va xs) (hb : At w vb ys) (hsx : Nl.Small xs) (hsy : Nl.Small ys) (h1 : -9223372036854775808 ≤ cut) (h2 : cut ≤ 9223372036854775807)
    (hd : validB xs = true → validB ys = true → Nl.val ys ≠ 0 → cutB cut = true → ∀ w', Below w.heap.size w w' → Calls Tryz.prog 131 #[va, vb, .int .i64 cut] w' fun e w'' => DivOk w' w'' e (Nl.val xs) (Nl.val ys)) :
    Calls Tryz.prog 70 #[.int .i64 1, va, vb, .int .i64 cut] w fun e w' => Pair2 w w' e xs ys (divK 1 cut (Nl.val ys)) (Nl.val xs / Nl.val ys) (Nl.val xs % Nl.val ys) := by
  have hmf : ∀ (fn : Fn) (first cap : Array Value) (w : World), (Instr.makeFunc fn first cap).run Tryz.prog w = .ok (.func fn first cap) w := fun _ _ _ _ => rfl
  have HA := Lib.hid ha
  have HB := Lib.hid hb
  obtain ⟨a, ca, rfl, -⟩ := ha.form
  obtain ⟨b, cb, rfl, -⟩ := hb.form
  have HD := Lib.hid hd
  clear ha hb hd
  go_enter Tryz.func70, Tryz.ntmps70
  go_wp2_with fail
  obtain ⟨W, hW⟩ : ∃ W, W = ((((w.alloc (.cells #[.int .i64 1] 3)).alloc (.cells #[.slice a xs.length ca] 23)).alloc (.cells #[.slice b ys.length cb] 23)).alloc (.cells #[.int .i64 cut] 3)).alloc (.cells #[.slice a xs.length ca, .slice b ys.length cb] 23) := ⟨_, rfl⟩
  rw [← hW]
  obtain ⟨hbl, hsz, c1, c2, c3, c4, c5, c6⟩ := boxes4 w _ _ _ _ _ _ _ _ _ _ _ W hW
  clear hW
  refine (two_two _ _ w W (divK 1 cut (Nl.val ys)) (Nl.val xs / Nl.val ys) (Nl.val xs % Nl.val ys) (w.heap.size + 1 + 1 + 1 + 1) _ _ xs ys hbl (by omega) c5 c6 HA.out HB.out (fun v1 v2 => ?_) (fun _ _ => by kernel_rfl)).mono ?_
  · refine quotient1_does (w.heap.size) _ _ _ _ cut W ⟨c1, c2, c3, c4, by omega, (HA.out.num hsx v1).below hbl, (HB.out.num hsy v2).below hbl, (validB_eq hsx v1).2, (validB_eq hsy v2).2, h1, h2⟩ (fun h0 hcb => fun w' hw' => HD.out v1 v2 h0 hcb w' (hbl.trans (hw'.mono hbl.size)))
  clear c1 c2 c3 c4 c5 c6 hbl hsz HD
  rintro e w1 ⟨c, hc, ⟨u, v, rfl, h2, h3⟩, hb1⟩
  have HR := Lib.hid (And.intro hc (And.intro h2 (And.intro h3 hb1)))
  clear hc h2 h3 hb1
  go_wp2_with fail
  refine bodyPost_ret (v := .tuple #[u, v, .int .i64 c]) (by simp [results, Tryz.results70, go_sem]) rfl ?_
  exact ⟨c, HR.out.1, ⟨u, v, rfl, HR.out.2.1, HR.out.2.2.1⟩, HR.out.2.2.2⟩

set_option maxHeartbeats 1000000 in
theorem quotient_of2 (va vb : Value) (xs ys : List Nat) (cut : Int) (w : World) (ha : At w va xs) (hb : At w vb ys) (hsx : Nl.Small xs) (hsy : Nl.Small ys) (h1 : -9223372036854775808 ≤ cut) (h2 : cut ≤ 9223372036854775807)
    (hd : validB xs = true → validB ys = true → Nl.val ys ≠ 0 → ∀ w', Below w.heap.size w w' → Calls Tryz.prog 132 #[va, vb, .int .i64 cut] w' fun e w'' => DivOk w' w'' e (Nl.val xs) (Nl.val ys)) :
    Calls Tryz.prog 70 #[.int .i64 2, va, vb, .int .i64 cut] w fun e w' => Pair2 w w' e xs ys (divK 2 cut (Nl.val ys)) (Nl.val xs / Nl.val ys) (Nl.val xs % Nl.val ys) := by
  have hmf : ∀ (fn : Fn) (first cap : Array Value) (w : World), (Instr.makeFunc fn first cap).run Tryz.prog w = .ok (.func fn first cap) w := fun _ _ _ _ => rfl
  have HA := Lib.hid ha
  have HB := Lib.hid hb
  obtain ⟨a, ca, rfl, -⟩ := ha.form
  obtain ⟨b, cb, rfl, -⟩ := hb.form
  have HD := Lib.hid hd
  clear ha hb hd
  go_enter Tryz.func70, Tryz.ntmps70
  go_wp2_with fail
  obtain ⟨W, hW⟩ : ∃ W, W = ((((w.alloc (.cells #[.int .i64 2] 3)).alloc (.cells #[.slice a xs.length ca] 23)).alloc (.cells #[.slice b ys.length cb] 23)).alloc (.cells #[.int .i64 cut] 3)).alloc (.cells #[.slice a xs.length ca, .slice b ys.length cb] 23) := ⟨_, rfl⟩
  rw [← hW]
  obtain ⟨hbl, hsz, c1, c2, c3, c4, c5, c6⟩ := boxes4 w _ _ _ _ _ _ _ _ _ _ _ W hW
  clear hW
  refine (two_two _ _ w W (divK 2 cut (Nl.val ys)) (Nl.val xs / Nl.val ys) (Nl.val xs % Nl.val ys) (w.heap.size + 1 + 1 + 1 + 1) _ _ xs ys hbl (by omega) c5 c6 HA.out HB.out (fun v1 v2 => ?_) (fun _ _ => by kernel_rfl)).mono ?_
  · refine quotient2_does (w.heap.size) _ _ _ _ cut W ⟨c1, c2, c3, c4, by omega, (HA.out.num hsx v1).below hbl, (HB.out.num hsy v2).below hbl, (validB_eq hsx v1).2, (validB_eq hsy v2).2, h1, h2⟩ (fun h0  => fun w' hw' => HD.out v1 v2 h0  w' (hbl.trans (hw'.mono hbl.size)))
  clear c1 c2 c3 c4 c5 c6 hbl hsz HD
  rintro e w1 ⟨c, hc, ⟨u, v, rfl, h2, h3⟩, hb1⟩
  have HR := Lib.hid (And.intro hc (And.intro h2 (And.intro h3 hb1)))
  clear hc h2 h3 hb1
  go_wp2_with fail
  refine bodyPost_ret (v := .tuple #[u, v, .int .i64 c]) (by simp [results, Tryz.results70, go_sem]) rfl ?_
  exact ⟨c, HR.out.1, ⟨u, v, rfl, HR.out.2.1, HR.out.2.2.1⟩, HR.out.2.2.2⟩

set_option maxHeartbeats 1000000 in
theorem div_any (va vb : Value) (xs ys : List Nat) (w : World) (ha : At w va xs) (hb : At w vb ys) (hsx : Nl.Small xs) (hsy : Nl.Small ys)
    (hd : validB xs = true → validB ys = true → Nl.val ys ≠ 0 → ∀ w', Below w.heap.size w w' → Calls Tryz.prog 131 #[va, vb, .int .i64 100] w' fun e w'' => DivOk w' w'' e (Nl.val xs) (Nl.val ys)) :
    Calls Tryz.prog 31 #[va, vb] w fun e w' => Pair2 w w' e xs ys (divK 1 100 (Nl.val ys)) (Nl.val xs / Nl.val ys) (Nl.val xs % Nl.val ys) := by
  have h := Lib.hid (quotient_of1 va vb xs ys 100 w ha hb hsx hsy (by decide) (by decide) (fun v1 v2 h0 _ => hd v1 v2 h0))
  obtain ⟨a, ca, rfl, -⟩ := ha.form
  obtain ⟨b, cb, rfl, -⟩ := hb.form
  clear ha hb hd
  go_enter Tryz.func31, Tryz.ntmps31
  go_wp2_with fail
  refine h.out.mono ?_
  rintro e w1 ⟨c, hc, ⟨u, v, rfl, h2, h3⟩, hb1⟩
  have HR := Lib.hid (And.intro hc (And.intro h2 (And.intro h3 hb1)))
  clear hc h2 h3 hb1 h
  go_wp2_with fail
  refine bodyPost_ret (v := .tuple #[u, v, .int .i64 c]) (by simp [results, Tryz.results31, go_sem]) rfl ?_
  exact ⟨c, HR.out.1, ⟨u, v, rfl, HR.out.2.1, HR.out.2.2.1⟩, HR.out.2.2.2⟩

set_option maxHeartbeats 1000000 in
theorem long_any (va vb : Value) (xs ys : List Nat) (w : World) (ha : At w va xs) (hb : At w vb ys) (hsx : Nl.Small xs) (hsy : Nl.Small ys)
    (hd : validB xs = true → validB ys = true → Nl.val ys ≠ 0 → ∀ w', Below w.heap.size w w' → Calls Tryz.prog 130 #[va, vb] w' fun e w'' => DivOk w' w'' e (Nl.val xs) (Nl.val ys)) :
    Calls Tryz.prog 49 #[va, vb] w fun e w' => Pair2 w w' e xs ys (divK 0 0 (Nl.val ys)) (Nl.val xs / Nl.val ys) (Nl.val xs % Nl.val ys) := by
  have h := Lib.hid (quotient_of0 va vb xs ys 0 w ha hb hsx hsy (by decide) (by decide) (fun v1 v2 h0 w' hw => longRoad _ _ _ _ _ _ (hd v1 v2 h0 w' hw)))
  obtain ⟨a, ca, rfl, -⟩ := ha.form
  obtain ⟨b, cb, rfl, -⟩ := hb.form
  clear ha hb hd
  go_enter Tryz.func49, Tryz.ntmps49
  go_wp2_with fail
  refine h.out.mono ?_
  rintro e w1 ⟨c, hc, ⟨u, v, rfl, h2, h3⟩, hb1⟩
  have HR := Lib.hid (And.intro hc (And.intro h2 (And.intro h3 hb1)))
  clear hc h2 h3 hb1 h
  go_wp2_with fail
  refine bodyPost_ret (v := .tuple #[u, v, .int .i64 c]) (by simp [results, Tryz.results49, go_sem]) rfl ?_
  exact ⟨c, HR.out.1, ⟨u, v, rfl, HR.out.2.1, HR.out.2.2.1⟩, HR.out.2.2.2⟩

set_option maxHeartbeats 1000000 in
theorem newton_any (va vb : Value) (xs ys : List Nat) (w : World) (ha : At w va xs) (hb : At w vb ys) (hsx : Nl.Small xs) (hsy : Nl.Small ys)
    (hd : validB xs = true → validB ys = true → Nl.val ys ≠ 0 → ∀ w', Below w.heap.size w w' → Calls Tryz.prog 133 #[va, vb] w' fun e w'' => DivOk w' w'' e (Nl.val xs) (Nl.val ys)) :
    Calls Tryz.prog 50 #[va, vb] w fun e w' => Pair2 w w' e xs ys (divK 2 0 (Nl.val ys)) (Nl.val xs / Nl.val ys) (Nl.val xs % Nl.val ys) := by
  have h := Lib.hid (quotient_of2 va vb xs ys 0 w ha hb hsx hsy (by decide) (by decide) (fun v1 v2 h0 w' hw => newtonRoad _ _ _ _ _ _ (hd v1 v2 h0 w' hw)))
  obtain ⟨a, ca, rfl, -⟩ := ha.form
  obtain ⟨b, cb, rfl, -⟩ := hb.form
  clear ha hb hd
  go_enter Tryz.func50, Tryz.ntmps50
  go_wp2_with fail
  refine h.out.mono ?_
  rintro e w1 ⟨c, hc, ⟨u, v, rfl, h2, h3⟩, hb1⟩
  have HR := Lib.hid (And.intro hc (And.intro h2 (And.intro h3 hb1)))
  clear hc h2 h3 hb1 h
  go_wp2_with fail
  refine bodyPost_ret (v := .tuple #[u, v, .int .i64 c]) (by simp [results, Tryz.results50, go_sem]) rfl ?_
  exact ⟨c, HR.out.1, ⟨u, v, rfl, HR.out.2.1, HR.out.2.2.1⟩, HR.out.2.2.2⟩

set_option maxHeartbeats 1000000 in
theorem blocks_any (va vb : Value) (xs ys : List Nat) (cut : Int) (w : World) (ha : At w va xs) (hb : At w vb ys) (hsx : Nl.Small xs) (hsy : Nl.Small ys) (h1 : -9223372036854775808 ≤ cut) (h2 : cut ≤ 9223372036854775807)
    (hd : validB xs = true → validB ys = true → Nl.val ys ≠ 0 → cutB cut = true → ∀ w', Below w.heap.size w w' → Calls Tryz.prog 131 #[va, vb, .int .i64 cut] w' fun e w'' => DivOk w' w'' e (Nl.val xs) (Nl.val ys)) :
    Calls Tryz.prog 51 #[va, vb, .int .i64 cut] w fun e w' => Pair2 w w' e xs ys (divK 1 cut (Nl.val ys)) (Nl.val xs / Nl.val ys) (Nl.val xs % Nl.val ys) := by
  have h := Lib.hid (quotient_of1 va vb xs ys cut w ha hb hsx hsy h1 h2 hd)
  obtain ⟨a, ca, rfl, -⟩ := ha.form
  obtain ⟨b, cb, rfl, -⟩ := hb.form
  clear ha hb hd
  go_enter Tryz.func51, Tryz.ntmps51
  go_wp2_with fail
  refine h.out.mono ?_
  rintro e w1 ⟨c, hc, ⟨u, v, rfl, h2, h3⟩, hb1⟩
  have HR := Lib.hid (And.intro hc (And.intro h2 (And.intro h3 hb1)))
  clear hc h2 h3 hb1 h
  go_wp2_with fail
  refine bodyPost_ret (v := .tuple #[u, v, .int .i64 c]) (by simp [results, Tryz.results51, go_sem]) rfl ?_
  exact ⟨c, HR.out.1, ⟨u, v, rfl, HR.out.2.1, HR.out.2.2.1⟩, HR.out.2.2.2⟩

end Go.Proofs.YtikgfdkaikpmhaaGreat
