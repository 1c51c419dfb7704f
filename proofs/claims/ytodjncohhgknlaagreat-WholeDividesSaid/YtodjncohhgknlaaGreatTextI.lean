/-
  What the text of an integer is. Conditions: those that each theorem names.
-/
import Derived.Stop.RegionWithIn
import Derived.Test.YtodjncohhgknlaaGreatRangeI
namespace Go.Proofs.YtodjncohhgknlaaGreat
open Go.RowKit

attribute [local go_sem] Oper.semAt_some

set_option maxHeartbeats 1000000 in
theorem digitsFromEnd_any (a : Option Addr) (l c B : Nat) (w : World) (h2 : 2 ≤ B) (h36 : B ≤ 36) :
    Calls Tryz.prog 181 #[.slice a l c, .int .i64 B] w fun e w' => ∃ s z : Nat, chunkOk B s z ∧
      e = .returned (.func (.func 234) #[] #[.pointer (some ⟨w.heap.size, 0, none⟩), .pointer (some ⟨w.heap.size + 2, 0, none⟩), .pointer (some ⟨w.heap.size + 3, 0, none⟩), .pointer (some ⟨w.heap.size + 1, 0, none⟩)]) ∧
      w' = (((w.alloc (.cells #[.slice a l c] 23)).alloc (.cells #[.int .i64 B] 3)).alloc (.cells #[.int .u32 s] 77)).alloc (.cells #[.int .i64 z] 3) := by
  have hmf : ∀ (fn : Fn) (first cap : Array Value) (w : World), (Instr.makeFunc fn first cap).run Tryz.prog w = .ok (.func fn first cap) w := fun _ _ _ _ => rfl
  have HC := Lib.hid (fun w' : World => chunkOf_any B w' h2 h36)
  clear h2 h36
  go_enter Tryz.func181, Tryz.ntmps181
  go_wp2_with fail
  refine (HC.out _).mono ?_
  rintro e w1 ⟨⟨s, z, rfl, hok⟩, rfl⟩
  have HOK := Lib.hid hok
  clear hok HC
  go_wp2_with fail
  go_ret
  exact ⟨s, z, HOK.out, rfl, rfl⟩

theorem ownsB_slice {base : Nat} {w : World} {v : Value} {n : Nat} {L : List Value} {e : TypeId} (h : w.ownsRow base e 1 v n L) (hn : 0 < n) : ∃ g cap, v = .slice (some ⟨g, 0, none⟩) n cap ∧ base ≤ g ∧ g < w.heap.size ∧ n ≤ cap ∧ cap ≤ 9223372036854775807 := by
  rcases h.2 with ⟨_, h'⟩ | ⟨g', cap', cur, rfl, hb, hg, hnc, hcm, _⟩
  · omega
  · exact ⟨g', cap', rfl, hb, lt_of_block hg, hnc, by simp only [maxLen] at hcm; omega⟩
/-- append to a row of one's own, as one operation -/
theorem opIn_append_own {F : Fence} {n : Nat} {P : Program} (w : World) {o : Oper} {a : Act} {K : Act → World → Prop} {Q : Exit → Act → World → Prop}
    (s x : Operand) (t : TypeId) (hop : o.op = Op.call { callee := Callee.builtin Builtin.append, args := #[s, x], argTypes := #[t, t] })
    (base : Nat) (e : TypeId) (i : TypeInfo) (z : Value) (size bytes : Nat) (h1 : P.underlying t = some (.slice e)) (h2 : P.info? e = some i) (h3 : i.zero = some z) (h4 : i.size = size) (h5 : i.bytes = bytes) (h6 : z.cells.size = size) (h7 : 0 < size)
    (v : Value) (k : Nat) (xs : List Value) (hs : a.eval s = v) (hown : w.ownsRow base e size v k xs) (ad : Addr) (m c : Nat) (news : List Value) (hx : a.eval x = .slice (some ad) m c) (hn : news.length = m * size)
    (hc : ∀ j u, news[j]? = some u → w.cell? (ad.add j) = some u) (h1c : ∀ u ∈ news, u.oneCell' = true) (b1 : k + m ≤ maxLen) (b2 : (k + m) * bytes ≤ 140737488355328) (b3 : base ≤ w.heap.size)
    (hK : ∀ v' w', w'.ownsRow base e size v' (k + m) (xs ++ news) → w.grownBy w' v.ownBlock → K (a.put o.dst v') w') : Oper.wpIn F n P o a w K Q := by
  obtain ⟨v', w', hrun, r1, r2, _⟩ := run_append_own (P := P) w base t o.type e i z size bytes h1 h2 h3 h4 h5 h6 h7 v k xs hown ad m c news hn hc h1c b1 b2 b3
  unfold Oper.wpIn
  refine ⟨?_, ?_⟩
  · simp [Oper.about, hop, resolve, Target.leads, Sem.run_pure]
  · rw [Oper.semAt_plain F _ _ (by rw [hop]; intro c hc'; cases hc')]
    simp [execOp, hop, resolve, invoke, builtin, hs, hx, hrun, Result.andThen]
    exact hK _ _ r1 r2

/-- the letters of digits -/
def letters (up : Bool) : ByteArray := if up = true then ⟨#[48, 49, 50, 51, 52, 53, 54, 55, 56, 57, 65, 66, 67, 68, 69, 70, 71, 72, 73, 74, 75, 76, 77, 78, 79, 80, 81, 82, 83, 84, 85, 86, 87, 88, 89, 90]⟩ else ⟨#[48, 49, 50, 51, 52, 53, 54, 55, 56, 57, 97, 98, 99, 100, 101, 102, 103, 104, 105, 106, 107, 108, 109, 110, 111, 112, 113, 114, 115, 116, 117, 118, 119, 120, 121, 122]⟩
def letterN (up : Bool) (d : Nat) : Nat := if d < 10 then 48 + d else if up = true then 55 + d else 87 + d
theorem letter_at (up : Bool) : ∀ d, d < 36 → (letters up).data[d]? = some (UInt8.ofNat (letterN up d)) := by
  cases up <;> decide
theorem letterN_lt (up : Bool) {d : Nat} (h : d < 36) : letterN up d < 256 := by
  rw [letterN]
  split
  · omega
  · split <;> omega
theorem letter_index (up : Bool) (x : Nat) (hx : x < 36) (w : World) : (Instr.index 9 (.string (letters up)) (.int .i64 (x : Int))).run Tryz.prog w = .ok (.int .u8 ((letterN up x : Nat) : Int)) w := by
  have hs : (letters up).size = 36 := by cases up <;> rfl
  have hi : 0 ≤ (x : Int) ∧ (x : Int) < ((letters up).size : Int) := by rw [hs]; omega
  rw [run_index_string w _ _ _ _ Tryz.underlying9, dif_pos hi]
  obtain ⟨h1, h2⟩ := Array.getElem?_eq_some_iff.1 (letter_at up x hx)
  have h3 : (letters up)[(x : Int).toNat]'(by rw [hs]; exact hx) = UInt8.ofNat (letterN up x) := h2
  rw [h3, byte_nat (letterN_lt up hx)]

/-- the bytes of the text of an integer, the last one first -/
def textL (B : Nat) (up s : Bool) (m : Nat) : List Nat := (if m = 0 then [48] else (digitsB B m).map (letterN up)) ++ (if s = true then [45] else [])
def textB (B : Nat) (up s : Bool) (m : Nat) : ByteArray := ⟨((textL B up s m).reverse.map UInt8.ofNat).toArray⟩

/-- what is collected, as letters -/
def GotL (up : Bool) (V : World) (pre : List Nat) (W : World) : Prop := Got V (pre.map (letterN up)) W
theorem GotL.new (up : Bool) (V : World) : AbidesNew (GotL up V) := fun pre W W' h hb => Got.kept (row := none) h ⟨hb.os, hb.tape, hb.output, hb.size, fun k hk _ => hb.block k hk⟩ (fun _ e => by cases e)
end Go.Proofs.YtodjncohhgknlaaGreat
