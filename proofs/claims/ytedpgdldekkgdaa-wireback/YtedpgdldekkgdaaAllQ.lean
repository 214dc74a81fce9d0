/-
  What PutRequest and OfRequest answer, in one form each for the program's and for the reference's.
-/
import Derived.Test.YtedpgdldekkgdaaRefOQ
import Derived.Test.YtedpgdldekkgdaaAskQ
import Derived.Test.YtedpgdldekkgdaaSamQ
import Derived.Test.YtedpgdldekkgdaaAw
namespace Go.Proofs.Ytedpgdldekkgdaa
open Go.RowKit Go.Shelf

def oQ (b : List Nat) : Req := if isQ b = true then rdQ (readN 1 (some b)).2 else noReq
def oB (b : List Nat) : List Nat := if isQ b = true then bdQ (readN 1 (some b)).2 else []
def oE (b : List Nat) : Int := if isQ b = true then 0 else 180
def OfAllQ (w : World) (b : List Nat) (e : Ending) (w' : World) : Prop :=
  ∃ p len cap, e = .returned (.tuple #[.agg (reqC (.slice p len cap) (oQ b)).toArray, .int .i64 (oE b)]) ∧ IsBytes w'.heap.size w' p len cap (oB b) ∧ Below w.heap.size w w'
theorem OfQPost.all {w : World} {b : List Nat} {e : Ending} {w' : World} (h : OfQPost w b e w') : OfAllQ w b e w' := by
  unfold OfAllQ oQ oB oE
  rcases h with ⟨h1, p, len, cap, h2, h3, h4⟩ | ⟨h1, h2, h3⟩
  · rw [if_pos h1, if_pos h1, if_pos h1]
    exact ⟨p, len, cap, h2, h3, h4⟩
  · have hn : ¬ isQ b = true := by rw [h1]; simp
    rw [if_neg hn, if_neg hn, if_neg hn]
    exact ⟨none, 0, 0, h2, noBytes _, h3⟩
theorem oQ_ok {b : List Nat} (hz : ∀ z ∈ b, z < 256) : (oQ b).ok := by
  unfold oQ
  split
  · exact rdQ_ok (fun _ h' => (readN_once (ahead_some hz) h').2)
  · exact noReq_ok
theorem putQ_any (p : Option Addr) (len cap : Nat) (b : List Nat) (r : Req) (hok : r.ok) (hnm : r.name.size ≤ 1000000) (w : World) (hI : IsBytes w.heap.size w p len cap b) :
    Calls Try.prog 10 #[.agg (reqC (.slice p len cap) r).toArray] w (RefPQ w r b) := by
  cases hm : mayQ r b with
  | true =>
    refine (putQ_some p len cap b r hok hm w hI).mono ?_
    rintro e w' ⟨v, rfl, h1, h2⟩
    exact ⟨v, by rw [if_pos hm], by rw [if_pos hm]; exact h1, h2⟩
  | false =>
    have hn : ¬ mayQ r b = true := by rw [hm]; simp
    refine (putQ_none p len cap b r hok hnm hm w hI.1).mono ?_
    rintro e w' ⟨rfl, h2⟩
    exact ⟨_, by rw [if_neg hn], by rw [if_neg hn]; exact Own.nil _ _, h2⟩
theorem putL_bytes {r : Req} (h : r.ok) {b : List Nat} (hb : ∀ z ∈ b, z < 256) : ∀ z ∈ (if mayQ r b = true then 1 :: encQ r b else []), z < 256 := by
  split
  · intro z hz
    rcases List.mem_cons.1 hz with rfl | h1
    · omega
    · exact encQ_bytes h hb z h1
  · intro z hz; cases hz
theorem wpList_wantReq {ops : Array Oper} {rest : List Oper} {o : Oper} {a : Act} {w : World} {Q : Exit → Act → World → Prop} (hw : Region.wanted o (yielded ops a.tmps) = true) (x : Operand) (ho : o.op = .load 28 x) {b off : Nat} (hx : a.eval x = .pointer (some ⟨b, off, none⟩)) {s : Value} {r : Req} (hok : r.ok) (hr : w.rangeAt b off (reqC s r))
    (h : wpList Try.prog ops Q rest (a.put o.dst (.agg (reqC s r).toArray)) w) : wpList Try.prog ops Q (o :: rest) a w :=
  BigFrame.wpList_want hw fun _ hK => wp_load_mid 28 x ho b off hx (reqC s r) _ hr Try.underlying28 rfl (size28' hok) (hK _ _ h)
end Go.Proofs.Ytedpgdldekkgdaa
