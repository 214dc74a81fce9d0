/-
  An ideal suite in memory: its tape, what it has sealed, what it was asked.
-/
import Derived.Test.YtobmcaknfbooiaaDoorPutLast
import Derived.Test.YtobmcaknfbooiaaDoorClone
import Derived.Test.YtobmcaknfbooiaaDoorBuild
namespace Go.Proofs.YtobmcaknfbooiaaDoor
open Classical
open Go.RowKit Go.Shelf

theorem fill_three (place : Nat → Option (Nat × Nat)) (K : List Value) (a p : ByteArray) (hK : K.length = 32) (h0 : place 0 = some (0, 32)) (h1 : place 1 = some (32, 1)) (h2 : place 2 = some (33, 1)) :
    Instr.fill place noAsked.toArray [(0, .agg K.toArray), (1, .string a), (2, .string p)] = some (K ++ [Value.string a, Value.string p]).toArray := by
  unfold Instr.fill
  simp only [h0, Value.cells, List.size_toArray, hK, Nat.zero_add]
  rw [if_neg (by rw [noAsked_length]; decide)]
  have h := fold_put 0 K noAsked
  simp only [Nat.zero_add] at h
  rw [h, putAt_eq K noAsked 0 (by rw [hK, noAsked_length]; omega)]
  have e : noAsked.drop (0 + K.length) = [.string ByteArray.empty, .string ByteArray.empty] := by rw [hK]; rfl
  rw [e, List.take_zero, List.nil_append]
  simp [Instr.fill, h1, h2, hK, Value.cells]

set_option maxRecDepth 100000 in
theorem run_build72 (w : World) (K : List Value) (a p : ByteArray) (hK : K.length = 32) : (Instr.build 72 #[(0, .agg K.toArray), (1, .string a), (2, .string p)]).run Tryd.prog w = .ok (.agg (K ++ [Value.string a, Value.string p]).toArray) w := by
  have hz := zero72 w
  have hf := fun place => fill_three place K a p hK
  generalize noAsked = NA at *
  simp [Instr.build, hz, run_underlying Tryd.underlying72, Tryd.sizeOf24, Tryd.sizeOf9, Value.cells]
  rw [hf _ rfl rfl rfl]
  simp

theorem strOf_size (zs : List Nat) : (strOf zs).size = zs.length := by
  have h := congrArg List.length (strOf_toList zs)
  rw [ByteArray.toList_eq] at h
  simpa using h

/-- An ideal suite. F: the blocks it hangs on; T: what it has sealed; L: for what it answered. -/
structure IdealAt (W : World) (F : List Nat) (S D t Q m3 m4 : Nat) (zs : List Nat) (f g : Value → Option Value) (T : List Value → Option (List Nat)) (L : ByteArray → List (List Value)) (K : Nat) : Prop where
  lt : ∀ k ∈ F, k < W.heap.size
  suite : ∃ gg, SuiteAt W S 1 (some ⟨t, 0, none⟩) (some ⟨D, 0, none⟩) gg
  drawn : ∃ x1 x2, Row W D 70 [.pointer (some ⟨t, 0, none⟩), x1, x2, .map (some m3), .map (some m4)]
  tape : TapeAt W t Q zs
  bytes : ∃ cs, Row W Q 5 cs
  long : zs.length ≤ 70000
  mem : S ∈ F ∧ D ∈ F ∧ t ∈ F ∧ Q ∈ F ∧ m3 ∈ F
  ne : m3 ≠ m4
  seals : MapAt Tryd.prog 72 W m3 f
  some : ∀ c ct, T c = Option.some ct → ∃ b, f (.agg c.toArray) = Option.some (.slice (Option.some ⟨b, 0, Option.none⟩) ct.length ct.length) ∧ b ∈ F ∧ Row W b 5 (u8s ct) ∧ (∀ z ∈ ct, z < 256) ∧ ct.length ≤ 70000
  none : ∀ c, T c = Option.none → f (.agg c.toArray) = Option.none
  asked : AskedRel W F m4 g L K

theorem IdealAt.keep {W W' : World} {F : List Nat} {S D t Q m3 m4 : Nat} {zs : List Nat} {f g : Value → Option Value} {T : List Value → Option (List Nat)} {L : ByteArray → List (List Value)} {K : Nat}
    (h : IdealAt W F S D t Q m3 m4 zs f g T L K) (hk : ∀ b ∈ F, W'.heap[b]? = W.heap[b]?) (hs : W.heap.size ≤ W'.heap.size) : IdealAt W' F S D t Q m3 m4 zs f g T L K := by
  obtain ⟨m1, m2, m3', m4', m5⟩ := h.mem
  refine ⟨fun k hk' => Nat.lt_of_lt_of_le (h.lt k hk') hs, ?_, ?_, h.tape.keep (hk _ m3') (hk _ m4'), ?_, h.long, h.mem, h.ne, h.seals.kept (hk _ m5), ?_, h.none, h.asked.keep hk⟩
  · obtain ⟨gg, hg⟩ := h.suite
    exact ⟨gg, (hk _ m1).trans hg⟩
  · obtain ⟨x1, x2, hg⟩ := h.drawn
    exact ⟨x1, x2, (hk _ m2).trans hg⟩
  · obtain ⟨cs, hcs⟩ := h.bytes
    exact ⟨cs, (hk _ m4').trans hcs⟩
  · intro c ct hct
    obtain ⟨b, h1, h2, h3, h4⟩ := h.some c ct hct
    exact ⟨b, h1, h2, (hk b h2).trans h3, h4⟩
theorem IdealAt.later {W W' : World} {F : List Nat} {S D t Q m3 m4 : Nat} {zs : List Nat} {f g : Value → Option Value} {T : List Value → Option (List Nat)} {L : ByteArray → List (List Value)} {K : Nat}
    (h : IdealAt W F S D t Q m3 m4 zs f g T L K) (hb : Below W.heap.size W W') : IdealAt W' F S D t Q m3 m4 zs f g T L K := h.keep (fun b hb' => hb.block b (h.lt b hb')) hb.size

/-- The table of what was asked hangs on its own blocks alone. -/
theorem AskedRel.keep2 {W W' : World} {F F' : List Nat} {m4 : Nat} {g : Value → Option Value} {L : ByteArray → List (List Value)} {K : Nat} (h : AskedRel W F m4 g L K) (hF : ∀ b ∈ F, b ∈ F') (hm : W'.heap[m4]? = W.heap[m4]?) (hk : ∀ b ∈ F, (∃ cs, Row W b 72 cs) → W'.heap[b]? = W.heap[b]?) : AskedRel W' F' m4 g L K where
  map := h.map.kept hm
  mem := hF _ h.mem
  own := fun s v hv => ⟨(h.own s v hv).1.keep (fun b hb => hk b ((h.own s v hv).2.2 b hb) (by
    rcases (h.own s v hv).1.2 with ⟨rfl, _⟩ | ⟨g', c', cur', rfl, _, hgg, _⟩
    · simp [Value.ownBlock] at hb
    · simp [Value.ownBlock] at hb
      subst hb
      exact ⟨cur'.toList, by unfold Row; rw [Array.toArray_toList]; exact hgg⟩)), (h.own s v hv).2.1, fun b hb => hF b ((h.own s v hv).2.2 b hb)⟩
  nil := h.nil
  all := h.all
  apart := h.apart

/-- What a tape tells is bytes. -/
theorem TapeAt.bytes {W : World} {B Q : Nat} {zs : List Nat} (h : TapeAt W B Q zs) : ∀ z ∈ zs, z < 256 := by
  obtain ⟨_, _, _, _, hI, _⟩ := h
  exact hI.2.2.2.1

/-- What is answered to Seal; what is then sealed; what is left to draw. -/
def sealE (T : List Value → Option (List Nat)) (zs : List Nat) (c : List Value) (n : Nat) : Int := match T c with | some _ => 0 | none => if n ≤ zs.length then 0 else 60
def sealC (T : List Value → Option (List Nat)) (zs : List Nat) (c : List Value) (n : Nat) : List Nat := match T c with | some ct => ct | none => if n ≤ zs.length then zs.take n else []
def sealT [DecidableEq Value] (T : List Value → Option (List Nat)) (zs : List Nat) (c : List Value) (n : Nat) : List Value → Option (List Nat) := match T c with | some _ => T | none => if n ≤ zs.length then (fun d => if d = c then some (zs.take n) else T d) else T
def sealZ (T : List Value → Option (List Nat)) (zs : List Nat) (c : List Value) (n : Nat) : List Nat := match T c with | some _ => zs | none => if n ≤ zs.length then zs.drop n else zs

/-- What Seal leaves: the suite, and bytes in a new row of their own. -/
def SealPost (w : World) (F : List Nat) (S D t Q m3 m4 : Nat) (zs : List Nat) (T : List Value → Option (List Nat)) (L : ByteArray → List (List Value)) (K : Nat) (c : List Value) (n : Nat) (v : Value) (w' : World) : Prop :=
  Own w.heap.size w' v (sealC T zs c n) ∧ ∃ F' f' g' L', (∀ b ∈ F', b ∈ F ∨ w.heap.size ≤ b) ∧ (∀ b, v.ownBlock = some b → b ∉ F') ∧ IdealAt w' F' S D t Q m3 m4 (sealZ T zs c n) f' g' (sealT T zs c n) L' (K + 1) ∧ Buts F w.heap.size w w' ∧
    ((sealE T zs c n = 0 ∧ ∃ ys, Lasts (L (strOf (sealC T zs c n))) c ys ∧ L' = putL L (strOf (sealC T zs c n)) ys) ∨ (sealE T zs c n ≠ 0 ∧ L' = L))

end Go.Proofs.YtobmcaknfbooiaaDoor
