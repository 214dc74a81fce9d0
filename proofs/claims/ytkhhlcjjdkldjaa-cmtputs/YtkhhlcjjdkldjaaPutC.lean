/-
  Put: a commit as bytes.
-/
import Derived.Test.YtkhhlcjjdkldjaaDou
import Derived.Test.YtkhhlcjjdkldjaaTxtC
namespace Go.Proofs.Ytkhhlcjjdkldjaa
open Go.RowKit Go.Shelf

/-- A commit as bytes. -/
def encC (ids : List (List Nat)) (c : Cmt) : List Nat := encIds ids ++ (c.root ++ (c.key ++ (encN c.seq ++ (encN c.author ++ encText (nameL c.text)))))
theorem flat_bytes {ids : List (List Nat)} (h : ∀ x ∈ ids, x.length = 32 ∧ ∀ z ∈ x, z < 256) : ∀ z ∈ ids.flatten, z < 256 := by
  intro z hz
  obtain ⟨x, hx, hzx⟩ := List.mem_flatten.1 hz
  exact (h x hx).2 z hzx
theorem encC_bytes {ids : List (List Nat)} (h : ∀ x ∈ ids, x.length = 32 ∧ ∀ z ∈ x, z < 256) {c : Cmt} (hok : c.ok) : ∀ z ∈ encC ids c, z < 256 := by
  intro z hz
  simp only [encC, encIds, encText, List.mem_append] at hz
  rcases hz with (h1 | h1) | h1 | h1 | h1 | h1 | h1 | h1
  · exact encN_bytes _ z h1
  · exact flat_bytes h z h1
  · exact hok.1.2 z h1
  · exact hok.2.1.2 z h1
  · exact encN_bytes _ z h1
  · exact encN_bytes _ z h1
  · exact encN_bytes _ z h1
  · exact nameL_lt _ z h1
theorem encIds_length {ids : List (List Nat)} (h : ∀ x ∈ ids, x.length = 32 ∧ ∀ z ∈ x, z < 256) (hn : ids.length ≤ 2) : (encIds ids).length ≤ 74 := by
  have g4 := encN_ten (n := ids.length) (by omega)
  have g5 := flat_ids h ids.length
  rw [List.take_length] at g5
  rw [encIds, List.length_append]
  omega
theorem two_nums (w : World) (x y : Nat) (hx : x < 18446744073709551616) (hy : y < 18446744073709551616) : IsNums (w.alloc (.cells #[.int .u64 (x : Nat), .int .u64 (y : Nat)] 26)) (some ⟨w.heap.size, 0, none⟩) 2 [x, y] := by
  refine ⟨rfl, by simp [hx, hy], .inr ⟨w.heap.size, 0, _, _, rfl, Row.new w 26 #[.int .u64 (x : Nat), .int .u64 (y : Nat)], fun i hi => ?_⟩⟩
  have : i = 0 ∨ i = 1 := by omega
  rcases this with rfl | rfl
  · exact (Row.new w 26 #[.int .u64 (x : Nat), .int .u64 (y : Nat)]).cell (i := 0) rfl
  · exact (Row.new w 26 #[.int .u64 (x : Nat), .int .u64 (y : Nat)]).cell (i := 1) rfl
theorem bytes_part {W : World} {g o n : Nat} {x : List Nat} (h : W.rangeAt g o (u8s x)) (hx : IsId x) (hg : g < n) : IsBytes n W (some ⟨g, o, none⟩) 32 32 x :=
  ⟨hx.1, Nat.le_refl _, by omega, hx.2, .inr ⟨g, o, rfl, hg, fun i hi => h i _ (u8s_at (by have := hx.1; omega))⟩⟩
theorem encs_two (x y : Nat) : encs [x, y] = encN x ++ encN y := by simp [encs]

set_option maxRecDepth 100000 in
set_option maxHeartbeats 1000000 in
/-- Put, of what may not be. -/
theorem put_none (p : Option Addr) (len cap : Nat) (ids : List (List Nat)) (c : Cmt) (hok : c.ok) (hlen : len ≤ 100000) (hm : mayC ids c = false) (w : World) (hI : IsIds w.heap.size w p len cap ids) :
    Calls Try.prog 9 #[.agg (cmtC (.slice p len cap) c).toArray] w fun e w' => e = .returned (.tuple #[.slice none 0 0, .int .i64 120]) ∧ Below w.heap.size w w' := by
  obtain ⟨w0, hw0⟩ : ∃ w0, w.alloc (.cells (cmtC (.slice p len cap) c).toArray 29) = w0 := ⟨_, rfl⟩
  have hb0 : Below w.heap.size w w0 := by rw [← hw0]; exact (Below.refl _ w).alloc (Nat.le_refl _) _
  have HA : Hid (CmtAt w0 w.heap.size (.slice p len cap) c) := by rw [← hw0]; exact CmtAt.new w _ c hok
  have HW0 : Hid (w.alloc (.cells (cmtC (.slice p len cap) c).toArray 29) = w0) := hw0
  have HM := mayBe_any p len cap ids c hok hlen w0 ((hI.below hb0).mono hb0.size)
  rw [hm] at HM
  have HOk : Hid c.ok := hok
  clear hw0 hI hok hm
  go_enter Try.func9, Try.ntmps9
  go_wp2_with (first
    | (rw [HW0.out])
    | ((with_reducible show wpList _ _ _ (Oper.mk _ (Op.load 29 (.tmp 1)) _ _ _ _ :: _) _ _); refine wpList_loadCmt rfl (.tmp 1) rfl rfl HOk.out HA.out.row.range ?_; simp only [Act.put, List.setIfInBounds_toArray, List.set_cons_zero, List.set_cons_succ])
    | (go_at_call 20; refine HM.mono ?_; rintro e w1 ⟨rfl, hb1⟩))
  refine bodyPost_ret (results_tmp2 rfl _ _ _) rfl ?_
  exact ⟨rfl, hb0.trans (hb1.mono hb0.size)⟩

set_option maxRecDepth 100000 in
set_option maxHeartbeats 2000000 in
/-- Put, of what may be. -/
theorem put_some (p : Option Addr) (len cap : Nat) (ids : List (List Nat)) (c : Cmt) (hok : c.ok) (hlen : len ≤ 100000) (hm : mayC ids c = true) (w : World) (hI : IsIds w.heap.size w p len cap ids) :
    Calls Try.prog 9 #[.agg (cmtC (.slice p len cap) c).toArray] w fun e w' => ∃ v, e = .returned (.tuple #[v, .int .i64 0]) ∧ Own w.heap.size w' v (encC ids c) ∧ Below w.heap.size w w' := by
  obtain ⟨w0, hw0⟩ : ∃ w0, w.alloc (.cells (cmtC (.slice p len cap) c).toArray 29) = w0 := ⟨_, rfl⟩
  have hb0 : Below w.heap.size w w0 := by rw [← hw0]; exact (Below.refl _ w).alloc (Nat.le_refl _) _
  have HA : Hid (CmtAt w0 w.heap.size (.slice p len cap) c) := by rw [← hw0]; exact CmtAt.new w _ c hok
  have HW0 : Hid (w.alloc (.cells (cmtC (.slice p len cap) c).toArray 29) = w0) := hw0
  have hs0 : w0.heap.size = w.heap.size + 1 := by rw [← hw0]; simp
  have HM := mayBe_any p len cap ids c hok hlen w0 ((hI.below hb0).mono hb0.size)
  rw [hm] at HM
  have HOk : Hid c.ok := hok
  have HI0 : Hid (IsIds w0.heap.size w0 p len cap ids) := (hI.below hb0).mono hb0.size
  have hm2 : ids.length ≤ 2 ∧ c.text.size ≤ 4096 := by
    simp only [mayC, Bool.and_eq_true, decide_eq_true_eq] at hm
    exact ⟨hm.1, hm.2.1⟩
  have HLi : Hid ((encIds ids).length ≤ 74) := encIds_length hI.2.2.2.1 hm2.1
  have hl2 : len ≤ 2 := by have := hI.1; omega
  have ht : c.text.size ≤ 4096 := hm2.2
  have hsq := hok.2.2.1
  have hau := hok.2.2.2
  have ea : (c.author : Int) % 18446744073709551616 = (c.author : Int) := by omega
  have HS1 : Hid ((encN c.seq).length ≤ 10) := encN_ten hsq
  have HS2 : Hid ((encN c.author).length ≤ 10) := encN_ten (by omega)
  have HS3 : Hid ((encText (nameL c.text)).length ≤ 4106) := by
    show _ ≤ _
    have := encN_ten (n := (nameL c.text).length) (by rw [nameL_length]; omega)
    rw [encText, List.length_append, nameL_length]
    rw [nameL_length] at this
    omega
  have l1 : Hid (c.root.length = 32) := hok.1.1
  have l2 : Hid (c.key.length = 32) := hok.2.1.1
  have HZ : Hid (∀ z ∈ encC ids c, z < 256) := encC_bytes hI.2.2.2.1 hok
  have HE : Hid ([] ++ encIds ids ++ c.root ++ c.key ++ encs [c.seq, c.author] ++ encText (nameL c.text) = encC ids c) := by show _ = _; rw [encC, encs_two]; simp
  have HLn : Hid ((encC ids c).length ≤ 1000000) := by
    show _ ≤ _
    have := HLi.out; have := HS1.out; have := HS2.out; have := HS3.out; have := l1.out; have := l2.out
    simp only [encC, List.length_append]
    omega
  have HNl : Hid ((nameL c.text).length = c.text.size) := nameL_length _
  clear hw0 hI hok hm hm2
  go_enter Try.func9, Try.ntmps9
  go_wp2_with (first
    | (rw [HW0.out])
    | ((with_reducible show wpList _ _ _ (Oper.mk _ (Op.load 29 (.tmp 1)) _ _ _ _ :: _) _ _); refine wpList_loadCmt rfl (.tmp 1) rfl rfl HOk.out HA.out.row.range ?_; simp only [Act.put, List.setIfInBounds_toArray, List.set_cons_zero, List.set_cons_succ])
    | (go_at_call 20; refine HM.mono ?_; rintro e w1 ⟨rfl, hb1⟩; have hs1 := hb1.size; have HA1 : Hid (CmtAt w1 w.heap.size (.slice p len cap) c) := HA.out.later hb1; have hcP := (HA1.out.later ((Below.refl _ w1).alloc (Nat.le_refl _) (.cells #[.slice none 0 0] 53))).par; have HI1 : Hid (IsIds w1.heap.size w1 p len cap ids) := (HI0.out.below hb1).mono hb1.size; have HB1 : Hid (Below w0.heap.size w0 w1) := hb1; clear hb1)
    | (go_at_call 21; refine (writerIds_any w1.heap.size [] ids p len cap _ (WrAt.new w1) (HI1.out.below ((Below.refl _ w1).alloc (Nat.le_refl _) _)) (by simp; omega)).mono ?_; rintro e w2 ⟨⟨v2, rfl⟩, hW2, hb2⟩; have hb2' : Below w1.heap.size w1 w2 := ((Below.refl _ w1).alloc (Nat.le_refl _) _).trans hb2; have HW2 : Hid (WrAt w2 w1.heap.size ([] ++ encIds ids)) := hW2; have HA2 : Hid (CmtAt w2 w.heap.size (.slice p len cap) c) := HA1.out.later hb2'; have HB2 : Hid (Below w1.heap.size w1 w2) := hb2'; clear hW2 hb2 hb2' hcP)
    | (go_at_call 22; have _ := HW2.out; refine (writerRaw_any w1.heap.size ([] ++ encIds ids) c.root _ 32 32 w1.heap.size w2 HW2.out (bytes_part HA2.out.root HOk.out.1 (by omega)) (by have := HLi.out; simp only [List.length_append, List.length_nil]; omega)).mono ?_; rintro e w3 ⟨⟨v3, rfl⟩, hW3, hk3⟩; have HW3 : Hid (WrAt w3 w1.heap.size ([] ++ encIds ids ++ c.root)) := hW3; have HA3 : Hid (CmtAt w3 w.heap.size (.slice p len cap) c) := HA2.out.below hk3.1 (by omega); have HB3 : Hid (Below w1.heap.size w1 w3) := HB2.out.trans hk3.1; clear hW3 hk3 HW2 HA2 HB2)
    | (go_at_call 22; have _ := HW3.out; refine (writerRaw_any w1.heap.size ([] ++ encIds ids ++ c.root) c.key _ 32 32 w1.heap.size w3 HW3.out (bytes_part HA3.out.key HOk.out.2.1 (by omega)) (by have := HLi.out; have := l1.out; simp only [List.length_append, List.length_nil]; omega)).mono ?_; rintro e w4 ⟨⟨v4, rfl⟩, hW4, hk4⟩; have HW4 : Hid (WrAt w4 w1.heap.size ([] ++ encIds ids ++ c.root ++ c.key)) := hW4; have HA4 : Hid (CmtAt w4 w.heap.size (.slice p len cap) c) := HA3.out.below hk4.1 (by omega); have HB4 : Hid (Below w1.heap.size w1 w4) := HB3.out.trans hk4.1; have hcS := HA4.out.seq; have hcA := HA4.out.author; have hsz4 := hW4.lt; clear hW4 hk4 HW3 HA3 HB3)
    | (go_at_call 23; refine (writerN_any w1.heap.size ([] ++ encIds ids ++ c.root ++ c.key) [c.seq, c.author] _ 2 2 _ (HW4.out.alloc _) (two_nums w4 c.seq c.author hsq (by omega)) (by have := HLi.out; have := l1.out; have := l2.out; simp only [List.length_append, List.length_nil]; omega) (by omega)).mono ?_; rintro e w5 ⟨⟨v5, rfl⟩, hW5, hk5⟩; have hk45 : Below w1.heap.size w4 w5 := ((Below.refl _ w4).alloc (by omega) _).trans hk5.1; have HW5 : Hid (WrAt w5 w1.heap.size ([] ++ encIds ids ++ c.root ++ c.key ++ encs [c.seq, c.author])) := hW5; have HA5 : Hid (CmtAt w5 w.heap.size (.slice p len cap) c) := HA4.out.below hk45 (by omega); have HB5 : Hid (Below w1.heap.size w1 w5) := HB4.out.trans hk45; have hcT := HA5.out.text; have hsz5 := hW5.lt; obtain ⟨cap6, w6, hcv, hb6, hs6, hI6⟩ := bytes_of_name w5 c.text (by omega); have HI6 : Hid (∀ W, KeepF w6 W → IsBytes (w5.heap.size + 1) W (some ⟨w5.heap.size, 0, none⟩) c.text.size cap6 (nameL c.text)) := hI6; have HB6 : Hid (Below w5.heap.size w5 w6) := hb6; clear hW5 hk5 hk45 HW4 HA4 HB4 hcS hcA hI6 hb6)
    | (go_at_call 24; refine (writerText_kept w1.heap.size ([] ++ encIds ids ++ c.root ++ c.key ++ encs [c.seq, c.author]) (nameL c.text) w6.heap.size _ c.text.size cap6 _ ((HW5.out.later HB6.out).alloc _) (Row.new w6 32 #[.slice (some ⟨w5.heap.size, 0, none⟩) c.text.size cap6]) (HI6.out _ (KeepF.of_below ((Below.refl _ w6).alloc (Nat.le_refl _) _))) (fun W hW => HI6.out W ((KeepF.of_below ((Below.refl _ w6).alloc (Nat.le_refl _) _)).trans hW.2.2)) (by have := HLi.out; have := l1.out; have := l2.out; have := HS1.out; have := HS2.out; rw [encs_two]; simp only [List.length_append, List.length_nil]; omega)).mono ?_; rintro e w7 ⟨⟨v7, rfl⟩, hW7, hk7⟩; have hk57 : Below w1.heap.size w5 w7 := ((HB6.out.mono (by omega)).alloc (by have := HB6.out.size; omega) _).trans hk7.1; have HW7 : Hid (WrAt w7 w1.heap.size (encC ids c)) := (by rw [← HE.out]; exact hW7); have HB7 : Hid (Below w1.heap.size w1 w7) := HB5.out.trans hk57; clear hW7 hk7 hk57 HW5 HA5 HB5 hcv)
    | (go_at_call 25; refine (writerBytes_any w1.heap.size (encC ids c) w7 HW7.out HZ.out HLn.out).mono ?_; rintro e w8 ⟨v8, rfl, hown8, hb8⟩))
  refine bodyPost_ret (results_tmp2 rfl _ _ _) rfl ?_
  have hs7 := HB7.out.size
  exact ⟨_, rfl, hown8.mono (by omega), hb0.trans ((HB1.out.trans ((HB7.out.mono (by omega)).trans (hb8.mono (by omega)))).mono (by omega))⟩
end Go.Proofs.Ytkhhlcjjdkldjaa
