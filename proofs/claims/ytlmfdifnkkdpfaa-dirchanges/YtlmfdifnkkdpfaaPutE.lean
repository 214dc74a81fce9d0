/-
  putEntry and Put: entries as bytes.
-/
import Derived.Test.YtlmfdifnkkdpfaaGoodAll
import Derived.Test.YtlmfdifnkkdpfaaRfAll
import Derived.Laws.IdiomStrings
namespace Go.Proofs.Ytlmfdifnkkdpfaa
open Go.RowKit Go.Shelf

/-- A name's bytes. -/
def nameL (s : ByteArray) : List Nat := (bytesOf s).map UInt8.toNat
theorem nameL_length (s : ByteArray) : (nameL s).length = s.size := by rw [nameL, List.length_map, bytesOf_length]
theorem nameL_lt (s : ByteArray) : ∀ z ∈ nameL s, z < 256 := fun z hz => by
  obtain ⟨c, _, rfl⟩ := List.mem_map.1 hz
  exact UInt8.toNat_lt c
theorem nameL_inj {a b : ByteArray} (h : nameL a = nameL b) : a = b := by
  have h1 : bytesOf a = bytesOf b := List.map_inj_right (fun x y hxy => UInt8.toNat_inj.1 hxy) |>.1 h
  cases a; cases b
  simp only [bytesOf] at h1
  congr
  exact Array.toList_inj.1 h1
theorem name_str (s : ByteArray) : strOf (nameL s) = s := by
  apply ByteArray.ext
  apply Array.ext'
  rw [← ByteArray.toList_eq, strOf_toList, nameL, List.map_map, show ((fun z => UInt8.ofNat z) ∘ UInt8.toNat) = id from funext (fun c => by simp)]
  simp
/-- []byte(name): in a block that bears a mark. -/
theorem bytes_of_name (w : World) (s : ByteArray) (hs : s.size ≤ 1000) : ∃ cap W1, (convert 9 25 (.string s)).run Try.prog w = .ok (.slice (some ⟨w.heap.size, 0, none⟩) s.size cap) W1 ∧ Below w.heap.size w W1 ∧ w.heap.size < W1.heap.size ∧ (∀ W, KeepF W1 W → IsBytes (w.heap.size + 1) W (some ⟨w.heap.size, 0, none⟩) s.size cap (nameL s)) := by
  have hrun := run_bytes_of_string (P := Try.prog) w 9 25 5 s Try.underlying9 Try.underlying25 Try.underlying5
  refine ⟨_, _, hrun, ((Below.refl _ w).drew.alloc (Nat.le_refl _) _), by simp, fun W hW => ⟨nameL_length s, grownCap_ge w s.size 0 5, ?_, nameL_lt s, .inr ⟨w.heap.size, 0, rfl, by omega, fun i hi => ?_⟩⟩⟩
  · have := grownCap_le_maxLen w s.size 0 5 (by simp only [maxLen]; omega)
    simpa only [maxLen] using this
  · rw [Nat.zero_add]
    have hi' : i < s.data.size := hi
    have hb : (w.drew.alloc (.cells (bytesRow s (grownCap w s.size 0 5)) 5 ((bytesRow s (grownCap w s.size 0 5)).size, (bytesRow s (grownCap w s.size 0 5)).size + 1))).heap[w.heap.size]? = some (.cells (bytesRow s (grownCap w s.size 0 5)) 5 ((bytesRow s (grownCap w s.size 0 5)).size, (bytesRow s (grownCap w s.size 0 5)).size + 1)) := heap_alloc_last w.drew _
    have h2 := hW _ _ _ _ (by simp) hb
    rw [cell_of_row W w.heap.size i _ 5 _ h2, bytesRow_at s _ i hi']
    have : (nameL s).getD i 0 = (s.data[i]).toNat := by
      rw [nameL, List.getD_eq_getElem?_getD, List.getElem?_map]
      rw [bytesOf, Array.getElem?_toList, Array.getElem?_eq_getElem hi']; rfl
    rw [this]

/-- An entry as bytes. -/
def encE (e : Ent) : List Nat := e.blind ++ (encText (nameL e.name) ++ (encN e.kind.toNat ++ (e.id ++ (e.key ++ (encN e.realm ++ encN e.epoch)))))
def encsE (es : List Ent) : List Nat := encN es.length ++ es.flatMap encE
theorem encText_length (t : List Nat) (h : t.length ≤ 1000) : (encText t).length ≤ t.length + 10 := by
  have := encN_ten (n := t.length) (by omega)
  rw [encText, List.length_append]; omega
theorem encE_length {e : Ent} (h : e.ok) (hn : e.name.size ≤ 1000) (hk : 0 ≤ e.kind) : (encE e).length ≤ 1200 := by
  have h1 := encText_length (nameL e.name) (by rw [nameL_length]; exact hn)
  rw [nameL_length] at h1
  have h2 := encN_ten (n := e.kind.toNat) (by have := h.2.2.2.1; omega)
  have h3 := encN_ten (n := e.realm) (by have := h.2.2.2.2.1; omega)
  have h4 := encN_ten (n := e.epoch) (by have := h.2.2.2.2.2; omega)
  simp only [encE, List.length_append, h.1.1, h.2.1.1, h.2.2.1.1]
  omega
theorem encE_bytes {e : Ent} (h : e.ok) : ∀ z ∈ encE e, z < 256 := by
  intro z hz
  simp only [encE, encText, List.mem_append] at hz
  rcases hz with h1 | (h1 | h1) | h1 | h1 | h1 | h1 | h1
  · exact h.1.2 z h1
  · exact encN_bytes _ z h1
  · exact nameL_lt _ z h1
  · exact encN_bytes _ z h1
  · exact h.2.1.2 z h1
  · exact h.2.2.1.2 z h1
  · exact encN_bytes _ z h1
  · exact encN_bytes _ z h1
theorem two_nums (w : World) (x y : Nat) (hx : x < 18446744073709551616) (hy : y < 18446744073709551616) : IsNums (w.alloc (.cells #[.int .u64 (x : Nat), .int .u64 (y : Nat)] 64)) (some ⟨w.heap.size, 0, none⟩) 2 [x, y] := by
  refine ⟨rfl, by simp [hx, hy], .inr ⟨w.heap.size, 0, _, _, rfl, Row.new w 64 #[.int .u64 (x : Nat), .int .u64 (y : Nat)], fun i hi => ?_⟩⟩
  have : i = 0 ∨ i = 1 := by omega
  rcases this with rfl | rfl
  · exact (Row.new w 64 #[.int .u64 (x : Nat), .int .u64 (y : Nat)]).cell (i := 0) rfl
  · exact (Row.new w 64 #[.int .u64 (x : Nat), .int .u64 (y : Nat)]).cell (i := 1) rfl
theorem EntAt.kept {B : Nat} {A A' : World} {g : Nat} {e : Ent} (h : EntAt A g e) (hk : KeptW B A A') : EntAt A' g e := ⟨h.ok, hk.2.1 43 (by decide) (by decide) _ _ _ h.row⟩
/-- 32 bytes inside an entry's variable, as a slice. -/
theorem bytes_part {W : World} {g o n : Nat} {x : List Nat} (h : W.rangeAt g o (u8s x)) (hx : x.length = 32) (hz : ∀ z ∈ x, z < 256) (hg : g < n) : IsBytes n W (some ⟨g, o, none⟩) 32 32 x :=
  ⟨hx, Nat.le_refl _, by omega, hz, .inr ⟨g, o, rfl, hg, fun i hi => h i _ (u8s_at (by omega))⟩⟩

set_option maxRecDepth 100000 in
set_option maxHeartbeats 2000000 in
theorem putEntry_any (B : Nat) (zs : List Nat) (x : Ent) (hok : x.ok) (hn : x.name.size ≤ 1000) (hk : 0 ≤ x.kind) (w : World) (hw : WrAt w B zs) (hlen : zs.length ≤ 700000) :
    Calls Try.prog 31 #[.pointer (some ⟨B, 0, none⟩), .agg (entC x).toArray] w fun e w' => (∃ v, e = .returned v) ∧ WrAt w' B (zs ++ encE x) ∧ KeptW B w w' := by
  have hBl := hw.lt
  obtain ⟨w1, hw1⟩ : ∃ w1, w.alloc (.cells (entC x).toArray 43) = w1 := ⟨_, rfl⟩
  obtain ⟨G, hG⟩ : ∃ G, w.heap.size = G := ⟨_, rfl⟩
  have HE1 : Hid (EntAt w1 G x) := by rw [← hw1, ← hG]; exact EntAt.new w x hok
  have HW1 : Hid (WrAt w1 B zs) := by rw [← hw1]; exact hw.alloc _
  have HK1 : Hid (KeptW B w w1) := by rw [← hw1]; exact (KeptW.refl B w).alloc (by omega) _
  have HW : Hid (w.alloc (.cells (entC x).toArray 43) = w1) := hw1
  have hBG : B < G := by omega
  have HG : Hid (w.heap.size = G) := hG
  have l1 : Hid (x.blind.length = 32) := hok.1.1
  have l2 : Hid (x.id.length = 32) := hok.2.1.1
  have l3 : Hid (x.key.length = 32) := hok.2.2.1.1
  obtain ⟨m, hm⟩ : ∃ m : Nat, x.kind = (m : Int) := ⟨x.kind.toNat, by omega⟩
  have hm64 : m < 9223372036854775808 := by have := hok.2.2.2.1; omega
  have HM : Hid (x.kind.toNat = m) := by show _ = _; omega
  have hrl := hok.2.2.2.2.1
  have hep := hok.2.2.2.2.2
  have HL1 : Hid (zs.length + 32 ≤ 1000000) := by show _ ≤ _; omega
  have HN : Hid ((nameL x.name).length = x.name.size) := nameL_length _
  have HT : Hid ((encText (nameL x.name)).length ≤ x.name.size + 10) := by show _ ≤ _; have := encText_length (nameL x.name) (by rw [nameL_length]; exact hn); rw [nameL_length] at this; exact this
  have HMl : Hid ((encN m).length ≤ 10) := encN_ten (by omega)
  have em : (m : Int) % 18446744073709551616 = (m : Int) := by omega
  have er : (x.realm : Int) % 18446744073709551616 = (x.realm : Int) := by omega
  have ee : (x.epoch : Int) % 18446744073709551616 = (x.epoch : Int) := by omega
  have HOk : Hid x.ok := hok
  have HEnc : Hid (zs ++ x.blind ++ encText (nameL x.name) ++ encN m ++ x.id ++ x.key ++ encs [x.realm, x.epoch] = zs ++ encE x) := by
    show _ = _
    rw [encE, HM.out]
    simp [encs]
  have hcK0 : ∀ W, EntAt W G x → W.cell? ⟨G, 33, none⟩ = some (.int .i64 (m : Int)) := fun W h => by rw [← hm]; exact h.kind
  have HcK : Hid (∀ W, EntAt W G x → W.cell? ⟨G, 33, none⟩ = some (.int .i64 (m : Int))) := hcK0
  clear hw hw1 hG hcK0 hm hok hk
  go_enter Try.func31, Try.ntmps31
  go_wp2_with (first
    | (go_at_call 65; rw [HW.out, HG.out]; refine (writerRaw_any B zs x.blind _ 32 32 (G + 1) w1 HW1.out (bytes_part HE1.out.blind HOk.out.1.1 HOk.out.1.2 (by omega)) HL1.out).mono ?_; rintro e w2 ⟨⟨v2, rfl⟩, hW2, hk2⟩; have HW2 : Hid (WrAt w2 B (zs ++ x.blind)) := hW2; have HK2 : Hid (KeptW B w w2) := HK1.out.trans hk2; have HE2 : Hid (EntAt w2 G x) := HE1.out.kept hk2; have hcN := HE2.out.name; obtain ⟨cap3, w3, hcv, hb3, hs3, hI3⟩ := bytes_of_name w2 x.name hn; have HI3 : Hid (∀ W, KeepF w3 W → IsBytes (w2.heap.size + 1) W (some ⟨w2.heap.size, 0, none⟩) x.name.size cap3 (nameL x.name)) := hI3; have HB3 : Hid (Below w2.heap.size w2 w3) := hb3; have hBw2 := hW2.lt; clear hW2 hk2 HW1 hI3 hb3 HW)
    | (go_at_call 66; refine (writerText_one B (zs ++ x.blind) (nameL x.name) w3.heap.size _ x.name.size cap3 _ ((HW2.out.later HB3.out).alloc _) (Row.new w3 25 #[.slice (some ⟨w2.heap.size, 0, none⟩) x.name.size cap3]) (HI3.out _ (KeepF.of_below ((Below.refl _ w3).alloc (Nat.le_refl _) _))) (fun W hW => HI3.out W ((KeepF.of_below ((Below.refl _ w3).alloc (Nat.le_refl _) _)).trans hW.2.2)) (by have := l1.out; simp; omega)).mono ?_; rintro e w5 ⟨⟨v5, rfl⟩, hW5, hk5⟩; have hk35 : KeptW B w2 w5 := ((KeptW.of_below HB3.out (by omega)).alloc (by omega) _).trans hk5; have HW5 : Hid (WrAt w5 B (zs ++ x.blind ++ encText (nameL x.name))) := hW5; have HK5 : Hid (KeptW B w w5) := HK2.out.trans hk35; have HE5 : Hid (EntAt w5 G x) := HE2.out.kept hk35; have hcK := HcK.out w5 HE5.out; have hBw5 := hW5.lt; clear hW5 hk5 hk35 HW2 HE2 HK2 hcv HI3 hcN)
    | (go_at_call 30; have hdone := HW5.out; refine (writerN_any B (zs ++ x.blind ++ encText (nameL x.name)) [m] _ 1 1 _ (HW5.out.alloc _) (IsNums.one w5 m (by omega)) (by have := l1.out; have := HT.out; simp only [List.length_append]; omega) (by omega)).mono ?_; rintro e w6 ⟨⟨v6, rfl⟩, hW6, hk6⟩; have hk56 : KeptW B w5 w6 := ((KeptW.refl B w5).alloc (by omega) _).trans hk6; have HW6 : Hid (WrAt w6 B (zs ++ x.blind ++ encText (nameL x.name) ++ encN m)) := (by rw [← encs_one]; exact hW6); have HK6 : Hid (KeptW B w w6) := HK5.out.trans hk56; have HE6 : Hid (EntAt w6 G x) := HE5.out.kept hk56; clear hdone hW6 hk6 hk56 HW5 HE5 HK5 hcK)
    | (go_at_call 65; have hdone := HW6.out; refine (writerRaw_any B (zs ++ x.blind ++ encText (nameL x.name) ++ encN m) x.id _ 32 32 (G + 1) w6 HW6.out (bytes_part HE6.out.id HOk.out.2.1.1 HOk.out.2.1.2 (by omega)) (by have := l1.out; have := HT.out; have := HMl.out; simp only [List.length_append]; omega)).mono ?_; rintro e w7 ⟨⟨v7, rfl⟩, hW7, hk7⟩; have HW7 : Hid (WrAt w7 B (zs ++ x.blind ++ encText (nameL x.name) ++ encN m ++ x.id)) := hW7; have HK7 : Hid (KeptW B w w7) := HK6.out.trans hk7; have HE7 : Hid (EntAt w7 G x) := HE6.out.kept hk7; clear hdone hW7 hk7 HW6 HE6 HK6)
    | (go_at_call 65; have hdone := HW7.out; refine (writerRaw_any B (zs ++ x.blind ++ encText (nameL x.name) ++ encN m ++ x.id) x.key _ 32 32 (G + 1) w7 HW7.out (bytes_part HE7.out.key HOk.out.2.2.1.1 HOk.out.2.2.1.2 (by omega)) (by have := l1.out; have := l2.out; have := HT.out; have := HMl.out; simp only [List.length_append]; omega)).mono ?_; rintro e w8 ⟨⟨v8, rfl⟩, hW8, hk8⟩; have HW8 : Hid (WrAt w8 B (zs ++ x.blind ++ encText (nameL x.name) ++ encN m ++ x.id ++ x.key)) := hW8; have HK8 : Hid (KeptW B w w8) := HK7.out.trans hk8; have HE8 : Hid (EntAt w8 G x) := HE7.out.kept hk8; have hcR := HE8.out.realm; have hcE := HE8.out.epoch; have hBw8 := hW8.lt; clear hdone hW8 hk8 HW7 HE7 HK7)
    | (go_at_call 30; have hdone := HW8.out; refine (writerN_any B (zs ++ x.blind ++ encText (nameL x.name) ++ encN m ++ x.id ++ x.key) [x.realm, x.epoch] _ 2 2 _ (HW8.out.alloc _) (two_nums w8 x.realm x.epoch (by omega) (by omega)) (by have := l1.out; have := l2.out; have := l3.out; have := HT.out; have := HMl.out; simp only [List.length_append]; omega) (by omega)).mono ?_; rintro e w9 ⟨⟨v9, rfl⟩, hW9, hk9⟩; have hk89 : KeptW B w8 w9 := ((KeptW.refl B w8).alloc (by omega) _).trans hk9; have HK9 : Hid (KeptW B w w9) := HK8.out.trans hk89; clear hdone hk9 hk89 HW8 HE8 HK8 hcR hcE))
  go_end0
  refine ⟨⟨_, rfl⟩, ?_, HK9.out⟩
  rw [← HEnc.out]
  exact hW9

/-- Kinds that may be are no less than nought. -/
theorem mayB_kind {e : Ent} (h : mayB e = true) : 0 ≤ e.kind := by
  rw [mayB, Bool.and_eq_true] at h
  have := h.1
  simp [kindB] at this
  omega
theorem mayB_size {e : Ent} (h : mayB e = true) : e.name.size ≤ 64 := by
  rw [mayB, Bool.and_eq_true] at h
  have := h.2
  rw [goodL, Bool.and_eq_true] at this
  have := this.2
  simp only [Bool.and_eq_true, decide_eq_true_eq, bytesOf_length] at this
  exact this.1.1.2
theorem goodE_may {es : List Ent} (h : goodE es = true) : ∀ e ∈ es, mayB e = true := by
  simp only [goodE, Bool.and_eq_true, List.all_eq_true] at h
  exact h.2.2.1
theorem goodE_len {es : List Ent} (h : goodE es = true) : es.length ≤ 500 := by
  simp only [goodE, Bool.and_eq_true, decide_eq_true_eq] at h
  exact h.1
theorem flat_length (es : List Ent) (h : ∀ e ∈ es, e.ok ∧ mayB e = true) : (es.flatMap encE).length ≤ 1200 * es.length := by
  induction es with
  | nil => simp
  | cons a r ih =>
    have h1 := ih (fun e he => h e (List.mem_cons_of_mem _ he))
    have h2 := h a List.mem_cons_self
    have h3 := encE_length h2.1 (by have := mayB_size h2.2; omega) (mayB_kind h2.2)
    simp only [List.flatMap_cons, List.length_append, List.length_cons]
    omega
theorem flat_bytes (es : List Ent) (h : ∀ e ∈ es, e.ok) : ∀ z ∈ es.flatMap encE, z < 256 := by
  intro z hz
  obtain ⟨e, he, hz⟩ := List.mem_flatMap.1 hz
  exact encE_bytes (h e he) z hz

set_option maxRecDepth 100000 in
set_option maxHeartbeats 2000000 in
/-- dir.Put -/
theorem put_any (p : Option Addr) (len cap : Nat) (es : List Ent) (w : World) (hI : IsEnts w.heap.size w p len cap es) (hnm : ∀ e ∈ es, e.name.size ≤ 1000000) :
    Calls Try.prog 10 #[.slice p len cap] w fun e w' => ∃ v, e = .returned (.tuple #[v, .int .i64 (if goodE es then 0 else 110)]) ∧ Own w.heap.size w' v (if goodE es then encsE es else []) ∧ Below w.heap.size w w' := by
  have HI : Hid (IsEnts w.heap.size w p len cap es) := hI
  have HL : Hid (es.length = len) := hI.1
  have HG := dgood_any p len cap es w hI hnm
  have hlc := hI.2.1
  have hcc := hI.2.2.1
  cases hg : goodE es with
  | false =>
    clear hI hnm
    rw [hg] at HG
    go_enter Try.func10, Try.ntmps10
    go_wp2_with (go_at_call 12; refine HG.mono ?_; rintro e w1 ⟨rfl, hb1⟩)
    refine bodyPost_ret (results_tmp2 rfl _ _ _) rfl ?_
    exact ⟨_, rfl, Own.nil _ _, hb1⟩
  | true =>
    have HMay : Hid (∀ e ∈ es, e.ok ∧ mayB e = true) := fun e he => ⟨hI.2.2.2.1 e he, goodE_may hg e he⟩
    have hl5 : len ≤ 500 := by have := goodE_len hg; have := HL.out; omega
    rw [hg] at HG
    clear hI hnm
    have e1 : (len : Int) % 18446744073709551616 = (len : Int) := by omega
    have HLn : Hid ((encN len).length ≤ 10) := encN_ten (by omega)
    have HN : Hid (∀ w1 : World, Calls Try.prog 30 #[.pointer (some ⟨w1.heap.size, 0, none⟩), .slice (some ⟨w1.heap.size + 1, 0, none⟩) 1 1] ((w1.alloc (.cells #[.slice none 0 0] 62)).alloc (.cells #[.int .u64 (len : Nat)] 64)) fun e w' => (∃ v, e = .returned v) ∧ WrAt w' w1.heap.size (encN len) ∧ Below w1.heap.size w1 w') := fun w1 => by
      have hnum := IsNums.one (w1.alloc (.cells #[.slice none 0 0] 62)) len (by omega)
      rw [World.size_alloc] at hnum
      refine (writerN_any w1.heap.size [] [len] _ 1 1 _ ((WrAt.new w1).alloc _) hnum (by simp) (by omega)).mono ?_
      rintro e w3 ⟨h1, hW3, hk3⟩
      rw [encs_one, List.nil_append] at hW3
      exact ⟨h1, hW3, (((Below.refl _ w1).alloc (Nat.le_refl _) _).alloc (by simp) _).trans hk3.1⟩
    go_enter Try.func10, Try.ntmps10
    go_wp2_with (first
      | (go_at_call 12; refine HG.mono ?_; rintro e w1 ⟨rfl, hb1⟩)
      | (go_at_call 30; refine (HN.out w1).mono ?_; rintro e w3 ⟨⟨v3, rfl⟩, hW3, hk3⟩; have HW3 : Hid (WrAt w3 w1.heap.size (encN len)) := hW3; have hb3 : Below w.heap.size w w3 := hb1.trans (hk3.mono hb1.size); clear hk3 hW3))
    have hs1 := hb1.size
    generalize w1.heap.size = B at *
    go_loopw [20] (fun i wr => ∃ (k : Nat), k ≤ len ∧ i = .int .i64 k ∧ WrAt wr B (encN len ++ (es.take k).flatMap encE) ∧ Below w.heap.size w wr) (fun i _ => len - (intOf i).toNat)
    case atStart => exact ⟨0, Nat.zero_le _, rfl, by simpa using HW3.out, hb3⟩
    case round =>
      clear HW3 hb3 hb1
      obtain ⟨k, hk, rfl, hwr, hbel⟩ := hrel
      have HWr : Hid (WrAt wr B (encN len ++ (es.take k).flatMap encE)) := hwr
      have hBl := hwr.lt
      clear hwr
      by_cases hlt : k < len
      · have hki : (k : Int) < (len : Int) := by omega
        obtain ⟨b, off, rfl, hb, hrg, hok, hmem⟩ := (HI.out.below hbel).at hlt
        have HT : Hid (encN len ++ (es.take (k + 1)).flatMap encE = encN len ++ (es.take k).flatMap encE ++ encE (es.getD k noEnt)) := by
          show _ = _
          rw [ent_take es (by rw [HL.out]; exact hlt), List.flatMap_append, List.append_assoc]
          simp
        have HRg : Hid (wr.rangeAt b (off + k * 100) (entC (es.getD k noEnt))) := hrg
        have HM : Hid (mayB (es.getD k noEnt) = true) := (HMay.out _ hmem).2
        have HZ : Hid ((encN len ++ (es.take k).flatMap encE).length ≤ 700000) := by
          show _ ≤ _
          have h1 := flat_length (es.take k) (fun e he => HMay.out e (List.mem_of_mem_take he))
          have h2 := HLn.out
          simp only [List.length_append, List.length_take] at *
          omega
        clear hrg hmem
        generalize es.getD k noEnt = x at *
        generalize encN len ++ (es.take k).flatMap encE = Z at *
        have hsz := hbel.size
        go_wp2_with (first
          | ((with_reducible show wpList _ _ _ (Oper.mk _ (Op.load 43 (.tmp 22)) _ _ _ _ :: _) _ _); refine wpList_loadEnt rfl (.tmp 22) rfl rfl hok HRg.out ?_; simp only [Act.put, List.setIfInBounds_toArray, List.set_cons_zero, List.set_cons_succ])
          | ((with_reducible show wpList _ _ _ (Oper.mk _ (Op.store 43 (.tmp 6) (.tmp 23)) _ _ _ _ :: _) _ _); refine wpList_storeNew rfl (.tmp 6) (.tmp 23) rfl x hok rfl rfl (fun W2 hb2 hE => ?_); have hcN := hE.name; have hcK := hE.kind; have HE : Hid (EntAt _ _ _) := hE; clear hE; simp only [Act.put])
          | ((with_reducible show wpList _ _ _ (Oper.mk _ (Op.load 43 (.tmp 6)) _ _ _ _ :: _) _ _); refine wpList_loadEnt rfl (.tmp 6) rfl rfl hok HE.out.row.range ?_; simp only [Act.put, List.setIfInBounds_toArray, List.set_cons_zero, List.set_cons_succ])
          | (go_at_call 31; refine (putEntry_any B Z x hok (by have := mayB_size HM.out; omega) (mayB_kind HM.out) W2 (HWr.out.later hb2) HZ.out).mono ?_; rintro e w5 ⟨⟨v5, rfl⟩, hW5, hk5⟩))
        go_roundw
        case rel => exact ⟨k + 1, by omega, by go_num, by rw [HT.out]; exact hW5, (hbel.trans (hb2.mono hsz)).trans (hk5.1.mono hs1)⟩
        case measure => simp [intOf]; omega
      · obtain rfl : k = len := by omega
        have HZ : Hid (encN k ++ (es.take k).flatMap encE = encsE es) := by
          show _ = _
          rw [List.take_of_length_le (by rw [HL.out]; exact Nat.le_refl _), encsE, HL.out]
        have hz : Hid ((∀ z ∈ encsE es, z < 256) ∧ (encsE es).length ≤ 1000000) := by
          refine ⟨fun z hz => ?_, ?_⟩
          · rcases List.mem_append.1 hz with h | h
            · exact encN_bytes _ z h
            · exact flat_bytes es (fun e he => (HMay.out e he).1) z h
          · have h1 := flat_length es HMay.out
            have h2 := HLn.out
            rw [encsE, List.length_append, HL.out]
            have := HL.out
            omega
        have hWr := HWr.out
        rw [HZ.out] at hWr
        have HWe : Hid (WrAt wr B (encsE es)) := hWr
        clear HWr hWr
        go_wp2_with (go_at_call 32; refine (writerBytes_any B (encsE es) wr HWe.out hz.out.1 hz.out.2).mono ?_; rintro e w5 ⟨v5, rfl, hO5, hb5⟩)
        refine bodyPost_ret (results_tmp2 rfl _ _ _) rfl ?_
        exact ⟨_, rfl, hO5.mono hbel.size, hbel.trans (hb5.mono hbel.size)⟩
end Go.Proofs.Ytlmfdifnkkdpfaa
