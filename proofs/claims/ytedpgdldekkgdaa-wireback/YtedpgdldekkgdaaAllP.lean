/-
  What OfReply answers, in one form for the program's and for the reference's.
-/
import Derived.Test.YtedpgdldekkgdaaRefOP
import Derived.Test.YtedpgdldekkgdaaAllQ
import Derived.Test.YtedpgdldekkgdaaSamP
import Derived.Test.YtedpgdldekkgdaaAnsP
namespace Go.Proofs.Ytedpgdldekkgdaa
open Go.RowKit Go.Shelf

def oP (b : List Nat) : Rep := if isP b = true then rdP (readN 2 (some b)).2 else noRep
def oPB (b : List Nat) : List Nat := if isP b = true then bdP (readN 2 (some b)).2 else []
def oPN (b : List Nat) : List ByteArray := if isP b = true then nmP (readN 2 (some b)).2 else []
def oPE (b : List Nat) : Int := if isP b = true then 0 else 180
def OfAllP (w : World) (b : List Nat) (e : Ending) (w' : World) : Prop :=
  ∃ p len cap q l c, e = .returned (.tuple #[.agg (repC (.slice p len cap) (.slice q l c) (oP b)).toArray, .int .i64 (oPE b)]) ∧ IsBytes w'.heap.size w' p len cap (oPB b) ∧ IsStrs w'.heap.size w' q l c (oPN b) ∧ Below w.heap.size w w'
theorem noStrs (W : World) : IsStrs W.heap.size W none 0 0 [] := ⟨rfl, Nat.le_refl _, by omega, .inl rfl⟩
theorem OfPPost.all {w : World} {b : List Nat} {e : Ending} {w' : World} (h : OfPPost w b e w') : OfAllP w b e w' := by
  unfold OfAllP oP oPB oPN oPE
  rcases h with ⟨h1, p, len, cap, q, l, c, h2, h3, h4, h5⟩ | ⟨h1, h2, h3⟩
  · rw [if_pos h1, if_pos h1, if_pos h1, if_pos h1]
    exact ⟨p, len, cap, q, l, c, h2, h3, h4, h5⟩
  · have hn : ¬ isP b = true := by rw [h1]; simp
    rw [if_neg hn, if_neg hn, if_neg hn, if_neg hn]
    exact ⟨none, 0, 0, none, 0, 0, h2, noBytes _, noStrs _, h3⟩
theorem oP_ok {b : List Nat} (hz : ∀ z ∈ b, z < 256) : (oP b).ok := by
  unfold oP
  split
  · exact rdP_ok (fun _ h' => (readN_once (ahead_some hz) h').2)
  · exact noRep_ok
theorem wpList_wantRep {ops : Array Oper} {rest : List Oper} {o : Oper} {a : Act} {w : World} {Q : Exit → Act → World → Prop} (hw : Region.wanted o (yielded ops a.tmps) = true) (x : Operand) (ho : o.op = .load 44 x) {b off : Nat} (hx : a.eval x = .pointer (some ⟨b, off, none⟩)) {s t : Value} {r : Rep} (hok : r.ok) (hr : w.rangeAt b off (repC s t r))
    (h : wpList Try.prog ops Q rest (a.put o.dst (.agg (repC s t r).toArray)) w) : wpList Try.prog ops Q (o :: rest) a w :=
  BigFrame.wpList_want hw fun _ hK => wp_load_mid 44 x ho b off hx (repC s t r) _ hr Try.underlying44 rfl (size44' hok) (hK _ _ h)
theorem fewP_facts {xs : List ByteArray} {len : Nat} (h : fewP xs len = true) : (∀ s ∈ xs, s.size ≤ 200) ∧ xs.length ≤ 40 ∧ len ≤ 1000 := by
  simp only [fewP, Bool.and_eq_true, decide_eq_true_eq, List.all_eq_true] at h
  exact ⟨h.1, h.2.1, h.2.2⟩
/-- What is put is read as it was. -/
theorem q_put_back {r : Req} {b : List Nat} (h : r.ok) (hm : mayQ r b = true) : isQ (1 :: encQ r b) = true ∧ oQ (1 :: encQ r b) = r ∧ oB (1 :: encQ r b) = b ∧ oE (1 :: encQ r b) = 0 := by
  have hb := q_back h hm []
  rw [List.append_nil] at hb
  have hi : isQ (1 :: encQ r b) = true := by
    rw [isQ_one, hb.1, hb.2.1, hb.2.2, hm]
    rfl
  unfold oQ oB oE
  rw [if_pos hi, if_pos hi, if_pos hi, readN1_one]
  exact ⟨hi, hb.1, hb.2.1, rfl⟩
theorem p_put_back {r : Rep} {b : List Nat} {xs : List ByteArray} (h : r.ok) (hm : mayP r b xs = true) : oP (2 :: encP r b xs) = r ∧ oPB (2 :: encP r b xs) = b ∧ oPN (2 :: encP r b xs) = xs ∧ oPE (2 :: encP r b xs) = 0 := by
  have hb := p_back h hm []
  rw [List.append_nil] at hb
  have hi : isP (2 :: encP r b xs) = true := by
    rw [isP_two, hb.2.2.2]
    rfl
  unfold oP oPB oPN oPE
  rw [if_pos hi, if_pos hi, if_pos hi, if_pos hi, readN2_one]
  exact ⟨hb.1, hb.2.1, hb.2.2.1, rfl⟩
/-- What is read is put as it was. -/
theorem q_read_put {b : List Nat} (hz : ∀ z ∈ b, z < 256) (hi : isQ b = true) : mayQ (oQ b) (oB b) = true ∧ 1 :: encQ (oQ b) (oB b) = b ∧ isP b = false := by
  obtain ⟨r0, rfl⟩ : ∃ r0, b = 1 :: r0 := by
    refine readN1_only hz ?_
    simp only [isQ, Bool.and_eq_true, decide_eq_true_eq] at hi
    exact hi.2.1
  have hi2 := hi
  rw [isQ_one] at hi2
  simp only [Bool.and_eq_true, decide_eq_true_eq] at hi2
  have hz0 : Ahead (some r0) := ahead_some (fun z hzz => hz z (List.mem_cons_of_mem _ hzz))
  have ho := rdQ_once hz0 (endE_zero hi2.1)
  rw [List.append_nil] at ho
  unfold oQ oB
  rw [if_pos hi, if_pos hi, readN1_one]
  exact ⟨hi2.2, by rw [← Option.some.inj ho], isP_not hz (fun r1 h => by cases h)⟩
theorem p_read_put {b : List Nat} (hz : ∀ z ∈ b, z < 256) (hi : isP b = true) : mayP (oP b) (oPB b) (oPN b) = true ∧ 2 :: encP (oP b) (oPB b) (oPN b) = b := by
  obtain ⟨r0, rfl⟩ : ∃ r0, b = 2 :: r0 := by
    refine readN2_only hz ?_
    simp only [isP, Bool.and_eq_true, decide_eq_true_eq] at hi
    exact hi.2
  have hi2 := hi
  rw [isP_two, decide_eq_true_eq] at hi2
  have hz0 : Ahead (some r0) := ahead_some (fun z hzz => hz z (List.mem_cons_of_mem _ hzz))
  have ho := rdP_once hz0 (endE_zero hi2)
  rw [List.append_nil] at ho
  unfold oP oPB oPN
  rw [if_pos hi, if_pos hi, if_pos hi, readN2_one]
  exact ⟨mayP_read hz0, by rw [← Option.some.inj ho]⟩
end Go.Proofs.Ytedpgdldekkgdaa
