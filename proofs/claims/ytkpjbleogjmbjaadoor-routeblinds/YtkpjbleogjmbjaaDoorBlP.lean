/-
  What Blind of an ideal suite answers, the program's and the reference's alike.
-/
import Derived.Test.YtkpjbleogjmbjaaDoorBlH
namespace Go.Proofs.YtkpjbleogjmbjaaDoor
open Classical
open Go.RowKit Go.Shelf

/-- An ideal suite: its tape at T, whose bytes lie in block Q. -/
structure IdealSt (W : World) (Q T n : Nat) (zs : List Nat) (f : Value → Option Value) : Prop where
  suite : SuiteAt W (n + 7) 1 (some ⟨T, 0, none⟩) (some ⟨n + 6, 0, none⟩) (some ⟨n + 1, 0, none⟩)
  drawn : Row W (n + 6) 70 [.pointer (some ⟨T, 0, none⟩), .map (some (n + 2)), .map (some (n + 3)), .map (some (n + 4)), .map (some (n + 5))]
  keys : MapAt Tryd.prog 77 W (n + 2) f
  tape : TapeAt W T Q zs
  lt : Q < T ∧ T < n
theorem IdealSt.stays (Q T n : Nat) (zs : List Nat) (f : Value → Option Value) : Stays (n + 8) fun W => IdealSt W Q T n zs f := fun _ _ hb h =>
  ⟨h.suite.below hb (by omega), h.drawn.below hb (by omega), h.keys.below hb (by omega), h.tape.below hb (by have := h.lt; omega), h.lt⟩
/-- Another tape. -/
theorem IdealSt.but {W W' : World} {Q T n N : Nat} {zs zs' : List Nat} {f : Value → Option Value} (h : IdealSt W Q T n zs f) (hb : But T N W W') (hN : n + 8 ≤ N) (ht : TapeAt W' T Q zs') : IdealSt W' Q T n zs' f := by
  have hl := h.lt
  exact ⟨hb.row (by omega) (by omega) h.suite, hb.row (by omega) (by omega) h.drawn, h.keys.but hb (by omega) (by omega), ht, h.lt⟩
def idF (T n : Nat) : List Nat := [T, n + 2]
theorem idF_lt {T n : Nat} (h : T < n) : ∀ k ∈ idF T n, k < n + 8 := by intro k hk; simp [idF] at hk; omega
theorem odd_ideal {W : World} {Q T n : Nat} {zs : List Nat} {f : Value → Option Value} (h : IdealSt W Q T n zs f) : ∀ k ∈ idF T n, Odd W k := by
  have b := odd_tape h.tape
  have c := odd_map h.keys
  simp [idF]
  exact ⟨b, c⟩

/-- Blind of an ideal suite, by what known answers. -/
theorem blind_known (k : List Nat) (hk : IsKey32 k) (Q T n : Nat) (zs : List Nat) (f : Value → Option Value) (s : ByteArray) (hs : s.size ≤ 1000) (V : List Value) (hV : V.length = 32) (hV1 : ∀ v ∈ V, v.oneCell' = true) (x : Int) (G : World → Prop) (hG : Stays (n + 8) G) (w : World) (hN : n + 8 ≤ w.heap.size) (h : IdealSt w Q T n zs f)
    (HKn : ∀ W, Below w.heap.size w W → Calls Tryd.prog 25 #[.map (some (n + 2)), .agg (askedL k 110 s).toArray, .func (.func 26) #[.pointer (some ⟨T, 0, none⟩)] #[]] W fun e w' => e = .returned (.tuple #[.agg V.toArray, .int .i64 x]) ∧ G w' ∧ Buts (idF T n) W.heap.size W w') :
    Calls Tryd.prog 7 #[.pointer (some ⟨n + 7, 0, none⟩), .agg (u8s k).toArray, .string s] w fun e w' => e = .returned (.tuple #[.agg V.toArray, .int .i64 x]) ∧ G w' ∧ Buts (idF T n) w.heap.size w w' := by
  have hF := idF_lt h.lt.2
  refine blind_gen (n + 7) k hk s hs V hV hV1 x (fun w' => G w' ∧ Buts (idF T n) w.heap.size w w') w (fun W W' hb hW => ⟨hG _ _ (hb.mono hN) hW.1, hW.2.trans (Buts.of_below hb (Nat.le_refl _))⟩) (fun W b c hW hb hI => ?_)
  have hsz := hW.size
  have hnb : ∀ b' off, (some ⟨b, 0, none⟩ : Option Addr) = some ⟨b', off, none⟩ → b' ∉ idF T n := fun b' off e hm => by cases e; have := hF _ hm; omega
  refine (prf_ideal (n + 8) (n + 7) (n + 6) (idF T n) _ _ k hk (some ⟨b, 0, none⟩) s.size c V hV hV1 x G hG W (by omega) hF (h.suite.later hW) (by have := h.lt; simp [idF]; omega) (fun W1 hW1 => ?_)).mono ?_
  · have hs1 := hW1.size
    have hw1 : Below w.heap.size w W1 := hW.trans (hW1.mono hsz)
    refine drawnPrf_any (n + 8) (n + 6) (n + 2) T (idF T n) _ _ _ k hk (some ⟨b, 0, none⟩) s.size c (nameL s) V hV hV1 x G hG W1 (by omega) hF (by have := h.lt; simp [idF]; omega) hnb (h.drawn.later hw1) (hI.later hW1) (fun W2 hW2 => ?_)
    rw [name_str]
    exact HKn W2 (hw1.trans (hW2.mono hw1.size))
  · rintro e w' ⟨rfl, h2, h3⟩
    refine ⟨rfl, ⟨h2, (Buts.of_below hW (Nat.le_refl _)).trans (h3.mono (fun _ h => h) hsz)⟩, fun b' cs hb' hr => h3.row hr.lt (fun hm => by have := hF _ hm; omega) hr⟩

/-- What is answered; the draws and the table behind it. -/
def ansD (T : Tb) (zs : List Nat) (s : ByteArray) : List Nat := match T s with | some d => d | none => if zs.length < 32 then List.replicate 32 0 else zs.take 32
def ansX (T : Tb) (zs : List Nat) (s : ByteArray) : Int := match T s with | some _ => 0 | none => if zs.length < 32 then 60 else 0
def nxtT (T : Tb) (zs : List Nat) (s : ByteArray) : Tb := match T s with | some _ => T | none => if zs.length < 32 then T else tbPut T s (zs.take 32)
def nxtZ (T : Tb) (zs : List Nat) (s : ByteArray) : List Nat := match T s with | some _ => zs | none => if zs.length < 32 then zs else zs.drop 32

theorem key_size (k : List Nat) (hk : IsKey32 k) (s : ByteArray) : (askedL k 110 s).length = 34 := by simp [askedL, hk.1]

/-- The program's. -/
theorem my_step (k : List Nat) (hk : IsKey32 k) (Q T n : Nat) (zs : List Nat) (hz : ∀ z ∈ zs, z < 256) (hzl : zs.length ≤ 70000) (Tb0 : Tb) (hok : Tb0.ok) (f : Value → Option Value) (hf : MyTb k Tb0 f) (s : ByteArray) (hs : s.size ≤ 1000) (w : World) (hN : n + 8 ≤ w.heap.size) (h : IdealSt w Q T n zs f) :
    Calls Tryd.prog 7 #[.pointer (some ⟨n + 7, 0, none⟩), .agg (u8s k).toArray, .string s] w fun e w' => e = .returned (.tuple #[.agg (u8s (ansD Tb0 zs s)).toArray, .int .i64 (ansX Tb0 zs s)]) ∧ (∃ f', MyTb k (nxtT Tb0 zs s) f' ∧ IdealSt w' Q T n (nxtZ Tb0 zs s) f') ∧ Buts (idF T n) w.heap.size w w' := by
  obtain ⟨kl, hkl⟩ := keyOf_asked hk (ad := 110) (p := s) (by omega) (by simp only [maxLen]; omega)
  have hfs := hf s
  have hF := idF_lt h.lt.2
  have hlt := h.lt
  unfold ansD ansX nxtT nxtZ
  cases hT : Tb0 s with
  | some d =>
    rw [hT] at hfs
    have hd := hok _ _ hT
    refine (blind_known k hk Q T n zs f s hs (u8s d) (isKey_len hd) (u8s_one _) 0 (fun W => IdealSt W Q T n zs f) (IdealSt.stays Q T n zs f) w hN h (fun W hW => ?_)).mono ?_
    · have hs1 := hW.size
      have hw : IdealSt W Q T n zs f := IdealSt.stays Q T n zs f _ _ (hW.mono hN) h
      refine (known_old (n + 2) _ kl hkl (key_size k hk s) (u8s d) (isKey_len hd) (u8s_one _) f _ W hw.keys hfs).mono ?_
      rintro e w' ⟨rfl, hb⟩
      exact ⟨rfl, IdealSt.stays Q T n zs f _ _ (hb.mono (by omega)) hw, Buts.of_below hb (Nat.le_refl _)⟩
    · rintro e w' ⟨rfl, h2, h3⟩
      exact ⟨rfl, ⟨f, hf, h2⟩, h3⟩
  | none =>
    rw [hT] at hfs
    by_cases h32 : zs.length < 32
    · simp only [if_pos h32]
      refine (blind_known k hk Q T n zs f s hs noKey rfl (by decide) 60 (fun W => IdealSt W Q T n zs f) (IdealSt.stays Q T n zs f) w hN h (fun W hW => ?_)).mono ?_
      · have hs1 := hW.size
        have hw : IdealSt W Q T n zs f := IdealSt.stays Q T n zs f _ _ (hW.mono hN) h
        refine known_err (n + 8) (n + 2) T (idF T n) _ kl hkl (key_size k hk s) noKey rfl (by decide) f (fun W => IdealSt W Q T n zs f) (IdealSt.stays Q T n zs f) W (by omega) hF hw.keys hfs (fun W2 hW2 => ?_)
        have hs2 := hW2.size
        have hw2 : IdealSt W2 Q T n zs f := IdealSt.stays Q T n zs f _ _ (hW2.mono (by omega)) hw
        refine (key_err _ W2 (fun W hW => take_over _ zs.length 32 (by decide) (by omega) W (left_any T Q zs W (hw2.tape.below hW hw2.tape.lt)))).mono ?_
        rintro e w' ⟨rfl, h2⟩
        exact ⟨rfl, IdealSt.stays Q T n zs f _ _ (h2.mono (by omega)) hw2, Buts.of_below h2 (Nat.le_refl _)⟩
      · rintro e w' ⟨rfl, h2, h3⟩
        exact ⟨by rw [noKey_eq], ⟨f, hf, h2⟩, h3⟩
    · simp only [if_neg h32]
      have h32' : 32 ≤ zs.length := by omega
      have hd := keyOfL zs hz h32'
      refine (blind_known k hk Q T n zs f s hs (u8s (zs.take 32)) (isKey_len hd) (u8s_one _) 0 (fun W => IdealSt W Q T n (zs.drop 32) (fnPut f (.agg (askedL k 110 s).toArray) (.agg (u8s (zs.take 32)).toArray))) (IdealSt.stays Q T n _ _) w hN h (fun W hW => ?_)).mono ?_
      · have hs1 := hW.size
        have hw : IdealSt W Q T n zs f := IdealSt.stays Q T n zs f _ _ (hW.mono hN) h
        refine known_new (n + 8) (n + 2) T (idF T n) _ kl hkl (key_size k hk s) (u8s (zs.take 32)) (isKey_len hd) (u8s_one _) f (fun W => IdealSt W Q T n (zs.drop 32) f ∧ n + 8 ≤ W.heap.size) (fun W => IdealSt W Q T n (zs.drop 32) (fnPut f (.agg (askedL k 110 s).toArray) (.agg (u8s (zs.take 32)).toArray))) (IdealSt.stays Q T n _ _) W (by omega) hF (by simp [idF]) hw.keys hfs (fun W2 hW2 => ?_) (fun W hW => hW.1.keys) (fun W W' hW h1 h2 => ?_)
        · have hs2 := hW2.size
          have hw2 : IdealSt W2 Q T n zs f := IdealSt.stays Q T n zs f _ _ (hW2.mono (by omega)) hw
          refine (key_some T Q zs h32' hzl W2 hw2.tape).mono ?_
          rintro e w' ⟨rfl, h2, h3⟩
          exact ⟨rfl, ⟨hw2.but h3 (by omega) h2, Nat.le_trans (by omega) h3.size⟩, Buts.of_but h3 (by simp [idF]) (Nat.le_refl _)⟩
        · have hl2 := hW.2
          have hi := hW.1
          exact ⟨h2.row (by omega) (by omega) hi.suite, h2.row (by omega) (by omega) hi.drawn, h1, hi.tape.keep (h2.block _ (by omega) (by omega)) (h2.block _ (by omega) (by omega)), hlt⟩
      · rintro e w' ⟨rfl, h2, h3⟩
        exact ⟨rfl, ⟨_, hf.put s (zs.take 32), h2⟩, h3⟩
end Go.Proofs.YtkpjbleogjmbjaaDoor
