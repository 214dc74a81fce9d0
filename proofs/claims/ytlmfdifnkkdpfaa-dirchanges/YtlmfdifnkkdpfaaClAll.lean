/-
  Several texts in one: Cl, Wo, Fi.
-/
import Derived.Test.YtlmfdifnkkdpfaaSameD
import Derived.Test.YtlmfdifnkkdpfaaGoodAll
import Derived.Test.YtlmfdifnkkdpfaaRefOD
/-
  The functions that look at one entry: With's two, Without's, Find's, Clashes'; own, without, Find, Without.
-/
namespace Go.Proofs.Ytlmfdifnkkdpfaa
open Go.RowKit Go.Shelf

def nameB (x : Ent) (s : ByteArray) : Bool := x.name.toList == s.toList
def withB (e x : Ent) : Bool := nameB x e.name || decide (x.blind = e.blind)
def overB (e x : Ent) : Bool := ltB e.blind x.blind
theorem cmpB_gtr (a b : List Nat) : decide ((0 : Int) < cmpB a b) = ltB b a := by
  unfold cmpB
  cases h : ltB a b with
  | true =>
    cases h2 : ltB b a with
    | true => have := ltB_trans _ _ _ h h2; rw [ltB_irrefl] at this; cases this
    | false => simp
  | false => cases ltB b a <;> simp

set_option maxRecDepth 100000 in
set_option maxHeartbeats 1000000 in
/-- Find's and Without's. -/
theorem find1_any (B : Nat) (s : ByteArray) (x : Ent) (hok : x.ok) (w : World) (hB : Boxed w B 9 (.string s)) :
    Calls Try.prog 57 #[.agg (entC x).toArray, .pointer (some ⟨B, 0, none⟩)] w fun e w' => e = .returned (.bool (nameB x s)) ∧ Below w.heap.size w w' := by
  have hE := EntAt.new w x hok
  have hcN := hE.name
  have hcB := (hB.alloc (.cells (entC x).toArray 43)).cell
  have hb : Below w.heap.size w (w.alloc (.cells (entC x).toArray 43)) := (Below.refl _ w).alloc (Nat.le_refl _) _
  have HQ : Hid (nameB x s = (x.name.toList == s.toList)) := rfl
  clear hE hok hB
  generalize entC x = V at *
  go_enter Try.func57, Try.ntmps57
  go_wp2
  go_ret
  exact ⟨by rw [HQ.out]; rfl, hb⟩
set_option maxRecDepth 100000 in
set_option maxHeartbeats 1000000 in
theorem without1_any (B : Nat) (s : ByteArray) (x : Ent) (hok : x.ok) (w : World) (hB : Boxed w B 9 (.string s)) :
    Calls Try.prog 56 #[.agg (entC x).toArray, .pointer (some ⟨B, 0, none⟩)] w fun e w' => e = .returned (.bool (nameB x s)) ∧ Below w.heap.size w w' := by
  have hE := EntAt.new w x hok
  have hcN := hE.name
  have hcB := (hB.alloc (.cells (entC x).toArray 43)).cell
  have hb : Below w.heap.size w (w.alloc (.cells (entC x).toArray 43)) := (Below.refl _ w).alloc (Nat.le_refl _) _
  have HQ : Hid (nameB x s = (x.name.toList == s.toList)) := rfl
  clear hE hok hB
  generalize entC x = V at *
  go_enter Try.func56, Try.ntmps56
  go_wp2
  go_ret
  exact ⟨by rw [HQ.out]; rfl, hb⟩

theorem wpList_load_wantMid {P : Program} {ops : Array Oper} {rest : List Oper} {o : Oper} {a : Act} {w : World} {Q : Exit → Act → World → Prop} (hw : Region.wanted o (yielded ops a.tmps) = true) (ty : TypeId) (x : Operand) (ho : o.op = .load ty x)
    (b off : Nat) (hx : a.eval x = .pointer (some ⟨b, off, none⟩)) (cs : List Value) (hg : w.rangeAt b off cs) {d : TypeDesc} (hu : P.underlying ty = some d) (hd : d.isRow = true) (hi : (P.info? ty).map (·.size) = some cs.length)
    (h : wpList P ops Q rest (a.put o.dst (.agg cs.toArray)) w) : wpList P ops Q (o :: rest) a w := by
  unfold wpList
  rw [if_pos hw]
  exact .inl (wp_load_mid ty x ho b off hx cs d hg hu hd hi h)

set_option maxRecDepth 100000 in
set_option maxHeartbeats 1000000 in
/-- With's first. -/
theorem with1_any (B : Nat) (e x : Ent) (hok : x.ok) (w : World) (hB : EntAt w B e) :
    Calls Try.prog 50 #[.agg (entC x).toArray, .pointer (some ⟨B, 0, none⟩)] w fun r w' => r = .returned (.bool (withB e x)) ∧ Below w.heap.size w w' := by
  have hE := EntAt.new w x hok
  have hb : Below w.heap.size w (w.alloc (.cells (entC x).toArray 43)) := (Below.refl _ w).alloc (Nat.le_refl _) _
  have hE2 := hB.later hb
  have hcN := hE.name
  have hcB := hE2.name
  have HR1 : Hid ((w.alloc (.cells (entC x).toArray 43)).rangeAt w.heap.size 0 (u8s x.blind)) := hE.blind
  have HR2 : Hid ((w.alloc (.cells (entC x).toArray 43)).rangeAt B 0 (u8s e.blind)) := hE2.blind
  have hq := equal_ids hok.1 hB.ok.1
  have HS1 : Hid ((Try.prog.info? 39).map (·.size) = some (u8s x.blind).length) := by show _ = _; rw [u8s_length, hok.1.1]; exact size39
  have HS2 : Hid ((Try.prog.info? 39).map (·.size) = some (u8s e.blind).length) := by show _ = _; rw [u8s_length, hB.ok.1.1]; exact size39
  have HQ : Hid (withB e x = ((x.name.toList == e.name.toList) || decide (x.blind = e.blind))) := rfl
  clear hE hE2 hok hB
  generalize entC x = V at *
  generalize decide (x.blind = e.blind) = dd at *
  generalize u8s x.blind = X at *
  generalize u8s e.blind = Y at *
  cases hn : (x.name.toList == e.name.toList) with
  | true =>
    go_enter Try.func50, Try.ntmps50
    go_wp2
    go_ret
    exact ⟨by rw [HQ.out, hn]; rfl, hb⟩
  | false =>
    go_enter Try.func50, Try.ntmps50
    go_wp2_with (first
      | ((with_reducible show wpList _ _ _ (Oper.mk _ (Op.load 39 (.tmp 10)) _ _ _ _ :: _) _ _); refine wpList_load_wantMid (by rfl) 39 (.tmp 10) rfl w.heap.size 0 rfl X HR1.out Try.underlying39 rfl HS1.out ?_; simp only [Act.put, List.setIfInBounds_toArray, List.set_cons_zero, List.set_cons_succ])
      | ((with_reducible show wpList _ _ _ (Oper.mk _ (Op.load 39 (.tmp 12)) _ _ _ _ :: _) _ _); refine wpList_load_wantMid (by rfl) 39 (.tmp 12) rfl B 0 rfl Y HR2.out Try.underlying39 rfl HS2.out ?_; simp only [Act.put, List.setIfInBounds_toArray, List.set_cons_zero, List.set_cons_succ]))
    go_ret
    exact ⟨by rw [HQ.out, hn]; rfl, hb⟩

set_option maxRecDepth 100000 in
set_option maxHeartbeats 1000000 in
/-- With's second. -/
theorem with2_any (B : Nat) (e x : Ent) (hok : x.ok) (w : World) (hB : EntAt w B e) :
    Calls Try.prog 51 #[.agg (entC x).toArray, .pointer (some ⟨B, 0, none⟩)] w fun r w' => r = .returned (.bool (overB e x)) ∧ Below w.heap.size w w' := by
  have hE := EntAt.new w x hok
  have hb : Below w.heap.size w (w.alloc (.cells (entC x).toArray 43)) := (Below.refl _ w).alloc (Nat.le_refl _) _
  have hE2 := hB.later hb
  have HR1 : Hid ((w.alloc (.cells (entC x).toArray 43)).rangeAt w.heap.size 0 (u8s x.blind)) := hE.blind
  have HR2 : Hid ((w.alloc (.cells (entC x).toArray 43)).rangeAt B 0 (u8s e.blind)) := hE2.blind
  have HC := dcompare_any _ _ hok.1 hB.ok.1
  have hcg := cmpB_gtr x.blind e.blind
  have HS1 : Hid ((Try.prog.info? 39).map (·.size) = some (u8s x.blind).length) := by show _ = _; rw [u8s_length, hok.1.1]; exact size39
  have HS2 : Hid ((Try.prog.info? 39).map (·.size) = some (u8s e.blind).length) := by show _ = _; rw [u8s_length, hB.ok.1.1]; exact size39
  have HQ : Hid (overB e x = ltB e.blind x.blind) := rfl
  clear hE hE2 hok hB
  generalize entC x = V at *
  generalize ltB e.blind x.blind = lt at *
  generalize cmpB x.blind e.blind = cm at *
  generalize u8s x.blind = X at *
  generalize u8s e.blind = Y at *
  go_enter Try.func51, Try.ntmps51
  go_wp2_with (first
    | ((with_reducible show wpList _ _ _ (Oper.mk _ (Op.load 39 (.tmp 4)) _ _ _ _ :: _) _ _); refine wpList_load_wantMid (by rfl) 39 (.tmp 4) rfl w.heap.size 0 rfl X HR1.out Try.underlying39 rfl HS1.out ?_; simp only [Act.put, List.setIfInBounds_toArray, List.set_cons_zero, List.set_cons_succ])
    | ((with_reducible show wpList _ _ _ (Oper.mk _ (Op.load 39 (.tmp 6)) _ _ _ _ :: _) _ _); refine wpList_load_wantMid (by rfl) 39 (.tmp 6) rfl B 0 rfl Y HR2.out Try.underlying39 rfl HS2.out ?_; simp only [Act.put, List.setIfInBounds_toArray, List.set_cons_zero, List.set_cons_succ])
    | (go_at_call 52; refine (HC _).mono ?_; rintro r w6 ⟨rfl, q6, hw6⟩; have hb6 := below_cmp hw6; clear hw6))
  go_ret
  exact ⟨by rw [HQ.out, ← hcg]; rfl, hb.trans (hb6.mono hb.size)⟩
end Go.Proofs.Ytlmfdifnkkdpfaa
/-
  own, without, Find, Clip and Without.
-/
namespace Go.Proofs.Ytlmfdifnkkdpfaa
open Go.RowKit Go.Shelf

set_option maxRecDepth 100000 in
set_option maxHeartbeats 1000000 in
/-- dir.own -/
theorem ownE_any (x : Ent) (hok : x.ok) (hn : x.name.size ≤ 1000000) (w : World) :
    Calls Try.prog 55 #[.agg (entC x).toArray] w fun e w' => e = .returned (.agg (entC x).toArray) ∧ Below w.heap.size w w' := by
  obtain ⟨w0, hw0⟩ : ∃ w0, (w.alloc (.cells (entC x).toArray 43)).alloc (.cells Try.zeroCells43 43) = w0 := ⟨_, rfl⟩
  have hb0 : Below w.heap.size w w0 := by rw [← hw0]; exact ((Below.refl _ w).alloc (Nat.le_refl _) _).alloc (by simp) _
  have hE0 : EntAt w0 w.heap.size x := by rw [← hw0]; exact ⟨hok, (Row.new' w 43 (entC x)).alloc _⟩
  have HR0 : Hid (Row w0 (w.heap.size + 1) 43 Try.zeroCells43.toList) := by
    rw [← hw0]
    have := Row.new (w.alloc (.cells (entC x).toArray 43)) 43 Try.zeroCells43
    rwa [World.size_alloc] at this
  have HW : Hid ((w.alloc (.cells (entC x).toArray 43)).alloc (.cells Try.zeroCells43 43) = w0) := hw0
  have hcN : ((w.alloc (.cells (entC x).toArray 43)).alloc (.cells Try.zeroCells43 43)).cell? ⟨w.heap.size, 32, none⟩ = some (.string x.name) := by rw [hw0]; exact hE0.name
  have HE0 : Hid (EntAt w0 w.heap.size x) := hE0
  have HOk : Hid x.ok := hok
  have HC := sclone_any x.name hn w0
  have hl0 : w.heap.size + 1 < w0.heap.size := HR0.out.lt
  clear hw0 hE0 hok
  go_enter Try.func55, Try.ntmps55
  go_wp2_with (first
    | (go_at_call 61; rw [HW.out]; refine HC.mono ?_; rintro e w1 ⟨rfl, hb1⟩; have hE1 := HE0.out.later hb1; have hc1 := hE1.name; have hf1 := hE1.row.frozen 32; have hs1 := hb1.size; have HE2 : Hid (EntAt (w1.setCell ⟨w.heap.size, 32, none⟩ (.string x.name)) w.heap.size x) := ⟨HOk.out, ((put_name HOk.out x.name : (entC x).set 32 (.string x.name) = entC x) ▸ hE1.row.set 32 (.string x.name))⟩; have HR2 : Hid (Row (w1.setCell ⟨w.heap.size, 32, none⟩ (.string x.name)) (w.heap.size + 1) 43 Try.zeroCells43.toList) := ((HR0.out.later hb1).other (a := ⟨w.heap.size, 32, none⟩) (show w.heap.size + 1 ≠ w.heap.size by omega) _); have hb2 : Below w.heap.size w (w1.setCell ⟨w.heap.size, 32, none⟩ (.string x.name)) := (hb0.trans (hb1.mono hb0.size)).setCell (p := ⟨w.heap.size, 32, none⟩) (Nat.le_refl _) _; clear hE1 hb1)
    | ((with_reducible show wpList _ _ _ (Oper.mk _ (Op.load 43 (.tmp 1)) _ _ _ _ :: _) _ _); refine wpList_loadEnt rfl (.tmp 1) rfl rfl HOk.out HE2.out.row.range ?_; simp only [Act.put, List.setIfInBounds_toArray, List.set_cons_zero, List.set_cons_succ])
    | ((with_reducible show wpList _ _ _ (Oper.mk _ (Op.store 43 (.tmp 2) (.tmp 7)) _ _ _ _ :: _) _ _); refine wpList_store_Row rfl 43 (.tmp 2) (.tmp 7) rfl (entC x) rfl rfl HR2.out (size43' HOk.out) (by rw [entC_length HOk.out, zero43_len]) (entC_one x) ?_; simp only [Act.put]))
  refine bodyPost_ret (results_cell_row rfl _ _ (w.heap.size + 1) 43 (entC x).toArray (0, 0) _ rfl (HR2.out.sets_all (by rw [entC_length HOk.out, zero43_len])) Try.underlying43 rfl (by simpa using size43' HOk.out)) rfl ?_
  exact ⟨rfl, below_setCells (Nat.le_succ _) _ _ hb2⟩

def filt (pr : Ent → Bool) (es : List Ent) : List Ent := es.filter fun x => !pr x

set_option maxRecDepth 100000 in
set_option maxHeartbeats 1000000 in
/-- dir.without -/
theorem without_any (p : Option Addr) (len cap : Nat) (es : List Ent) (w : World) (hI : IsEnts w.heap.size w p len cap es) (hnm : ∀ e ∈ es, e.name.size ≤ 1000000) (hlen : len ≤ 100000) (g : Nat) (lb : Array Value) (eg : ∀ args w, (callFunc g args).run Try.prog w = .ok (.enter g args) w) (pr : Ent → Bool)
    (hp : ∀ W, Below w.heap.size w W → ∀ x ∈ es, Calls Try.prog g (#[.agg (entC x).toArray] ++ lb) W fun e W' => e = .returned (.bool (pr x)) ∧ Below W.heap.size W W') :
    Calls Try.prog 49 #[.slice p len cap, .func (.func g) #[] lb] w fun e w' => ∃ q l c, e = .returned (.slice q l c) ∧ OwnE w.heap.size w' (.slice q l c) (filt pr es) ∧ Below w.heap.size w w' := by
  have HI : Hid (IsEnts w.heap.size w p len cap es) := hI
  have HL : Hid (es.length = len) := hI.1
  have HNm : Hid (∀ e ∈ es, e.name.size ≤ 1000000) := hnm
  have HP : Hid (∀ W, Below w.heap.size w W → ∀ x ∈ es, Calls Try.prog g (#[.agg (entC x).toArray] ++ lb) W fun e W' => e = .returned (.bool (pr x)) ∧ Below W.heap.size W W') := hp
  obtain ⟨i0, hi0, hz0, hz1, hz2⟩ := info_parts info43
  have hlc := hI.2.1
  have hcc := hI.2.2.1
  clear hI hp hnm
  go_enter Try.func49, Try.ntmps49
  go_wp2
  go_loopw [5, 10] (fun a i wr => ∃ (k : Nat) (q : Option Addr) (l c : Nat), k ≤ len ∧ i = .int .i64 k ∧ a = .slice q l c ∧ OwnE w.heap.size wr (.slice q l c) (filt pr (es.take k)) ∧ Below w.heap.size w wr) (fun _ i _ => len - (intOf i).toNat)
  case atStart => exact ⟨0, none, 0, 0, Nat.zero_le _, rfl, rfl, OwnE.nil _ _, Below.refl _ _⟩
  case round =>
    obtain ⟨k, q, l, c, hk, rfl, rfl, hown, hbel⟩ := hrel
    have HO : Hid (OwnE w.heap.size wr (.slice q l c) (filt pr (es.take k))) := hown
    clear hown
    by_cases hlt : k < len
    · have hki : (k : Int) < (len : Int) := by omega
      obtain ⟨b, off, rfl, hb, hrg, hok, hmem⟩ := (HI.out.below hbel).at hlt
      have HT : Hid (filt pr (es.take (k + 1)) = filt pr (es.take k) ++ filt pr [es.getD k noEnt]) := by
        show _ = _
        rw [ent_take es (by rw [HL.out]; exact hlt), filt, List.filter_append]; rfl
      have HFl : Hid ((filt pr (es.take k)).length ≤ 100000) := by
        show _ ≤ _
        have := List.length_filter_le (fun x => !pr x) (es.take k)
        rw [filt]; simp at this; omega
      have HRg : Hid (wr.rangeAt b (off + k * 100) (entC (es.getD k noEnt))) := hrg
      have HM : Hid (es.getD k noEnt ∈ es) := hmem
      have HX : Hid ((es.getD k noEnt).name.size ≤ 1000000) := HNm.out _ hmem
      clear hrg hmem
      generalize es.getD k noEnt = x at *
      generalize filt pr (es.take k) = F at *
      have hsz := hbel.size
      cases hq : pr x with
      | true =>
        have HTx : Hid (filt pr [x] = []) := by show _ = _; simp [filt, hq]
        go_wp2_with (first
          | ((with_reducible show wpList _ _ _ (Oper.mk _ (Op.load 43 (.tmp 12)) _ _ _ _ :: _) _ _); refine wpList_loadEnt rfl (.tmp 12) rfl rfl hok HRg.out ?_; simp only [Act.put, List.setIfInBounds_toArray, List.set_cons_zero, List.set_cons_succ])
          | ((with_reducible show wpList _ _ _ (Oper.mk _ (Op.store 43 (.tmp 7) (.tmp 13)) _ _ _ _ :: _) _ _); refine wpList_storeNew rfl (.tmp 7) (.tmp 13) rfl x hok rfl rfl (fun W2 hb2 hE => ?_); have hcN := hE.name; have hcK := hE.kind; have HE : Hid (EntAt _ _ _) := hE; clear hE; simp only [Act.put])
          | ((with_reducible show wpList _ _ _ (Oper.mk _ (Op.load 43 (.tmp 7)) _ _ _ _ :: _) _ _); refine wpList_loadEnt rfl (.tmp 7) rfl rfl hok HE.out.row.range ?_; simp only [Act.put, List.setIfInBounds_toArray, List.set_cons_zero, List.set_cons_succ])
          | (go_at_fn g; refine (HP.out W2 (hbel.trans (hb2.mono hsz)) x HM.out).mono ?_; rintro e w5 ⟨rfl, hb5⟩; rw [hq]))
        go_roundw
        case rel =>
          refine ⟨k + 1, q, l, c, by omega, by go_num, rfl, ?_, (hbel.trans (hb2.mono hsz)).trans (hb5.mono (by have := hb2.size; omega))⟩
          rw [HT.out, HTx.out, List.append_nil]
          exact (HO.out.later hb2).later hb5
        case measure => simp [intOf]; omega
      | false =>
        have HTx : Hid (filt pr [x] = [x]) := by show _ = _; simp [filt, hq]
        go_wp2_with (first
          | ((with_reducible show wpList _ _ _ (Oper.mk _ (Op.load 43 (.tmp 12)) _ _ _ _ :: _) _ _); refine wpList_loadEnt rfl (.tmp 12) rfl rfl hok HRg.out ?_; simp only [Act.put, List.setIfInBounds_toArray, List.set_cons_zero, List.set_cons_succ])
          | ((with_reducible show wpList _ _ _ (Oper.mk _ (Op.store 43 (.tmp 7) (.tmp 13)) _ _ _ _ :: _) _ _); refine wpList_storeNew rfl (.tmp 7) (.tmp 13) rfl x hok rfl rfl (fun W2 hb2 hE => ?_); have hcN := hE.name; have hcK := hE.kind; have HE : Hid (EntAt _ _ _) := hE; clear hE; simp only [Act.put])
          | (go_at_fn g; refine (HP.out W2 (hbel.trans (hb2.mono hsz)) x HM.out).mono ?_; rintro e w5 ⟨rfl, hb5⟩; rw [hq]; have HE5 : Hid (EntAt w5 wr.heap.size x) := HE.out.later hb5; have hb5' : Below w.heap.size w w5 := (hbel.trans (hb2.mono hsz)).trans (hb5.mono (by have := hb2.size; omega)); have HO5 : Hid (OwnE w.heap.size w5 (.slice q l c) F) := (HO.out.later hb2).later hb5; clear hb5)
          | ((with_reducible show wpList _ _ _ (Oper.mk (some 15) (Op.load 43 (.tmp 7)) _ _ _ _ :: _) _ _); refine wpList_loadEnt rfl (.tmp 7) rfl rfl hok HE.out.row.range ?_; simp only [Act.put, List.setIfInBounds_toArray, List.set_cons_zero, List.set_cons_succ])
          | ((with_reducible show wpList _ _ _ (Oper.mk (some 19) (Op.load 43 (.tmp 7)) _ _ _ _ :: _) _ _); refine wpList_loadEnt rfl (.tmp 7) rfl rfl hok HE5.out.row.range ?_; simp only [Act.put, List.setIfInBounds_toArray, List.set_cons_zero, List.set_cons_succ])
          | (go_at_call 55; refine (ownE_any x hok HX.out w5).mono ?_; rintro e w6 ⟨rfl, hb6⟩; have HO6 : Hid (OwnE w.heap.size w6 (.slice q l c) F) := HO5.out.later hb6; have hb6' : Below w.heap.size w w6 := hb5'.trans (hb6.mono hb5'.size); clear hb6)
          | ((with_reducible show wpList _ _ _ (Oper.mk _ (Op.buildSlice 22 1 _) _ _ _ _ :: _) _ _); refine wpList_buildOne rfl 22 43 (.tmp 20) rfl (entC x) rfl i0 _ Try.underlying22 hi0 hz0 (by rw [hz1, entC_length hok]) (by rw [entC_length hok]; omega) (by rw [entC_length hok]; omega) ?_; have hown6 : OwnE w.heap.size (w6.alloc (.cells (entC x).toArray 43)) (.slice q l c) F := World.ownsRow.alloc HO6.out _; have hs6 := hb6'.size; have hsa6 : w.heap.size ≤ (w6.alloc (.cells (entC x).toArray 43)).heap.size := (by rw [World.size_alloc]; omega); obtain ⟨ue, we, hrune, hoe, hge⟩ := run_append_ent (w6.alloc (.cells (entC x).toArray 43)) w.heap.size 22 (.slice q l c) F hown6 w6.heap.size x hok (Row.new' w6 43 _).range HFl.out hsa6; have HRune : Hid ((Builtin.append_ #[22, 22] 22 #[.slice q l c, .slice (some ⟨w6.heap.size, 0, none⟩) 1 1]).run Try.prog (w6.alloc (.cells (entC x).toArray 43)) = .ok ue we) := hrune; obtain ⟨qe, ce, hue⟩ := hoe.slice; subst hue; have HOe : Hid (OwnE w.heap.size we (.slice qe (F ++ [x]).length ce) (F ++ [x])) := hoe; have hbe : Below w.heap.size w we := (hb6'.alloc hs6 _).grown hge hsa6 (fun j ej => (World.ownsRow.lt hown6 j ej).1); clear hrune hoe hge hown6 hs6 hsa6; simp only [Act.put, List.setIfInBounds_toArray, List.set_cons_zero, List.set_cons_succ])
          | (at_builtin; refine wpList_plain rfl fun K hK => wp_append_of (.tmp 18) (.tmp 21) 22 rfl rfl rfl HRune.out (hK _ _ ?_); clear hK; simp only [Act.put, List.setIfInBounds_toArray, List.set_cons_zero, List.set_cons_succ]))
        go_roundw
        case rel =>
          refine ⟨k + 1, qe, _, ce, by omega, by go_num, rfl, ?_, hbe⟩
          rw [HT.out, HTx.out]
          exact HOe.out
        case measure => simp [intOf]; omega
    · obtain rfl : k = len := by omega
      have HTk : Hid (filt pr (es.take k) = filt pr es) := by show _ = _; rw [List.take_of_length_le (by rw [HL.out]; exact Nat.le_refl _)]
      have hO := HO.out
      rw [HTk.out] at hO
      have HO2 : Hid (OwnE w.heap.size wr (.slice q l c) (filt pr es)) := hO
      clear HO hO
      go_wp2
      go_ret
      exact ⟨_, _, _, rfl, HO2.out, hbel⟩
end Go.Proofs.Ytlmfdifnkkdpfaa
/-
  Clip, Without and Find.
-/
namespace Go.Proofs.Ytlmfdifnkkdpfaa
open Go.RowKit Go.Shelf

set_option maxRecDepth 100000 in
set_option maxHeartbeats 1000000 in
theorem clip_any (q : Option Addr) (l c : Nat) (hlc : l ≤ c) (w : World) : Calls Try.prog 53 #[.slice q l c] w fun e w' => e = .returned (.slice q l l) ∧ w' = w := by
  have h1 : (l : Int) ≤ (c : Int) := by omega
  cases q with
  | none =>
    go_enter Try.func53, Try.ntmps53
    go_wp2
    go_ret
    exact ⟨rfl, rfl⟩
  | some a =>
    go_enter Try.func53, Try.ntmps53
    go_wp2
    go_ret
    exact ⟨rfl, rfl⟩
theorem IsEnts.clip {n₀ : Nat} {W : World} {p : Option Addr} {len cap : Nat} {es : List Ent} (h : IsEnts n₀ W p len cap es) : IsEnts n₀ W p len len es := by
  obtain ⟨h1, h2, h3, h4, h5⟩ := h
  exact ⟨h1, Nat.le_refl _, by omega, h4, h5⟩
theorem filt_ok {pr : Ent → Bool} {es : List Ent} (h : ∀ e ∈ es, e.ok) : ∀ e ∈ filt pr es, e.ok := fun e he => h e (List.mem_filter.1 he).1

set_option maxRecDepth 100000 in
set_option maxHeartbeats 1000000 in
/-- dir.Without -/
theorem withoutD_any (p : Option Addr) (len cap : Nat) (es : List Ent) (s : ByteArray) (w : World) (hI : IsEnts w.heap.size w p len cap es) (hnm : ∀ e ∈ es, e.name.size ≤ 1000000) (hlen : len ≤ 100000) :
    Calls Try.prog 19 #[.slice p len cap, .string s] w fun e w' => ∃ q l, e = .returned (.slice q l l) ∧ IsEnts w'.heap.size w' q l l (filt (fun x => nameB x s) es) ∧ Below w.heap.size w w' := by
  have hb1 : Below w.heap.size w (w.alloc (.cells #[.string s] 9)) := (Below.refl _ w).alloc (Nat.le_refl _) _
  have hbx : Boxed (w.alloc (.cells #[.string s] 9)) w.heap.size 9 (.string s) := Boxed.new w 9 _
  have HW := without_any p len cap es (w.alloc (.cells #[.string s] 9)) (hI.later hb1) hnm hlen 56 #[.pointer (some ⟨w.heap.size, 0, none⟩)] (enters_of Try.func56 (by kernel_rfl) rfl) (fun x => nameB x s) (fun W hb x hx => without1_any w.heap.size s x (hI.2.2.2.1 x hx) W (boxed_below hbx hb))
  have HOk : Hid (∀ e ∈ filt (fun x => nameB x s) es, e.ok) := filt_ok hI.2.2.2.1
  clear hI hnm hbx
  go_enter Try.func19, Try.ntmps19
  go_wp2_with (first
    | (go_at_call 49; refine HW.mono ?_; rintro e w2 ⟨q, l, c, rfl, hO, hb2⟩; have HE2 : Hid (IsEnts w2.heap.size w2 q l c (filt (fun x => nameB x s) es)) := hO.ents HOk.out; have hlc := HE2.out.2.1; clear hO)
    | (go_at_call 53; refine (clip_any q l c hlc w2).mono ?_; rintro e w3 ⟨rfl, hw3⟩; obtain rfl : w2 = w3 := hw3.symm; clear hw3))
  go_ret
  exact ⟨_, _, rfl, HE2.out.clip, hb1.trans (hb2.mono hb1.size)⟩

set_option maxRecDepth 100000 in
set_option maxHeartbeats 1000000 in
/-- dir.Find -/
theorem find_any (p : Option Addr) (len cap : Nat) (es : List Ent) (s : ByteArray) (w : World) (hI : IsEnts w.heap.size w p len cap es) :
    Calls Try.prog 21 #[.slice p len cap, .string s] w fun e w' => e = .returned (.tuple #[.int .i64 (firstN (fun x => nameB x s) es : Nat), .bool (es.any fun x => nameB x s)]) ∧ Below w.heap.size w w' := by
  have hb1 : Below w.heap.size w (w.alloc (.cells #[.string s] 9)) := (Below.refl _ w).alloc (Nat.le_refl _) _
  have hbx : Boxed (w.alloc (.cells #[.string s] 9)) w.heap.size 9 (.string s) := Boxed.new w 9 _
  have HF := first_any p len cap es (w.alloc (.cells #[.string s] 9)) (hI.later hb1) 57 #[.pointer (some ⟨w.heap.size, 0, none⟩)] (enters_of Try.func57 (by kernel_rfl) rfl) (fun x => nameB x s) (fun W hb x hx => find1_any w.heap.size s x (hI.2.2.2.1 x hx) W (boxed_below hbx hb))
  clear hI hbx
  generalize firstN (fun x => nameB x s) es = fi at *
  generalize (es.any fun x => nameB x s) = an at *
  go_enter Try.func21, Try.ntmps21
  go_wp2_with (go_at_call 36; refine HF.mono ?_; rintro e w2 ⟨rfl, hb2⟩)
  refine bodyPost_ret (results_tmp2 rfl _ _ _) rfl ?_
  exact ⟨rfl, hb1.trans (hb2.mono hb1.size)⟩
end Go.Proofs.Ytlmfdifnkkdpfaa
