/-
  MarkCloses, walked.
-/
import Derived.Test.YtfclbdlkpnoceaaEqX
namespace Go.Proofs.Ytfclbdlkpnoceaa
open Go.RowKit Go.Shelf Go.Maps
attribute [local go_sem] Oper.semAt_some

section
variable {ops : Array Oper} {rest : List Oper} {o : Oper} {a : Act} {w : World} {Q : Exit → Act → World → Prop}
theorem wpList_loadIdW (hw : Region.wanted o (yielded ops a.tmps) = true) (x : Operand) (ho : o.op = .load 33 x) {g off : Nat} (hx : a.eval x = .pointer (some ⟨g, off, none⟩)) {i : List Nat} (hi : IsId i) (hg : w.rangeAt g off (u8s i))
    (h : wpList Try.prog ops Q rest (a.put o.dst (idV i)) w) : wpList Try.prog ops Q (o :: rest) a w := by
  refine BigFrame.wpList_want hw fun K hK => ?_
  unfold Oper.wp
  simp only [execOp, ho, hx, Instr.loadAt, Instr.sureAddr, Sem.run_bind, Sem.run_pure, Result.andThen_ok, run_loadVar_mid w g off 33 (u8s i) _ hg Try.underlying33 rfl (size33' hi)]
  exact hK _ _ h
end
def allNe (ks : List O) (x : List Nat) : Bool := ks.all fun p => decide (p.id ≠ x)
theorem allNe_snoc (ks : List O) (p : O) (x : List Nat) : allNe (ks ++ [p]) x = (allNe ks x && decide (p.id ≠ x)) := by simp [allNe]
theorem allNe_true {ks : List O} {x : List Nat} (h : allNe ks x = true) : ∀ p ∈ ks, p.id ≠ x := by simpa [allNe] using h

theorem cnt_snoc (m : List O) (o : O) (gs : List (List Nat)) : ((m ++ [o]).filter fun o => decide (o.id ∈ gs)).length = (m.filter fun o => decide (o.id ∈ gs)).length + if o.id ∈ gs then 1 else 0 := by
  rw [List.filter_append, List.length_append]
  congr 1
  by_cases hh : o.id ∈ gs
  · rw [List.filter_cons_of_pos (by simpa using hh), if_pos hh]; rfl
  · rw [List.filter_cons_of_neg (by simpa using hh), if_neg hh]; rfl

set_option maxRecDepth 100000 in
set_option maxHeartbeats 2000000 in
theorem markCloses_walk (p : Option Addr) (len cap : Nat) (l : List O) (q : Option Addr) (rl rc : Nat) (roots : List (List Nat)) (w : World) (hI : IsObjs w.heap.size w p len cap l) (hR : IsIds w.heap.size w q rl rc roots) :
    Calls Try.prog 6 #[.slice p len cap, .slice q rl rc] w fun e w' => e = .returned (.bool true) ∧ Below w.heap.size w w' := by
  have HI : Hid (IsObjs w.heap.size w p len cap l) := hI
  have HR : Hid (IsIds w.heap.size w q rl rc roots) := hR
  have hll := hI.1
  have hrll := hR.1
  have hlc := hI.2.1
  have hcc := hI.2.2.1
  have hrlc := hR.2.1
  have hrcc := hR.2.2.1
  clear hI hR
  by_cases hr20 : 20 < rl
  · have hri : (20 : Int) < (rl : Int) := by omega
    go_enter Try.func6, Try.ntmps6
    go_wp2_with (first
      | (go_at_call 7; refine (awake_any w).mono ?_; rintro e w1 ⟨rfl, b1⟩; have HF : Hid (Calls Try.prog 8 #[.slice p len cap] w1 fun e w' => ∃ b, e = .returned (.bool b) ∧ (b = true → (∀ o ∈ l, o.links.length ≤ 20) ∧ len ≤ 30) ∧ Below w1.heap.size w1 w') := few_any p len cap l w1 ((HI.out.below b1).mono b1.size))
      | (go_at_call 8; refine HF.out.mono ?_; rintro e w2 ⟨b, rfl, hfew, b2⟩; have HFew := (show Hid (b = true → _) from hfew); clear hfew; cases b))
    all_goals (go_ret; exact ⟨rfl, b1.trans (b2.mono b1.size)⟩)
  have hri : ¬ (20 : Int) < (rl : Int) := by omega
  go_enter Try.func6, Try.ntmps6
  go_wp2_with (first
    | (go_at_call 7; refine (awake_any w).mono ?_; rintro e w1 ⟨rfl, b1⟩; have HF : Hid (Calls Try.prog 8 #[.slice p len cap] w1 fun e w' => ∃ b, e = .returned (.bool b) ∧ (b = true → (∀ o ∈ l, o.links.length ≤ 20) ∧ len ≤ 30) ∧ Below w1.heap.size w1 w') := few_any p len cap l w1 ((HI.out.below b1).mono b1.size))
    | (go_at_call 8; refine HF.out.mono ?_; rintro e w2 ⟨b, rfl, hfew, b2⟩; have HFew := (show Hid (b = true → _) from hfew); clear hfew; cases b))
  · go_ret
    exact ⟨rfl, b1.trans (b2.mono b1.size)⟩
  obtain ⟨hln, hlen⟩ := HFew.out (by first | rfl | trivial)
  have b12 : Below w.heap.size w w2 := b1.trans (b2.mono b1.size)
  have hI2 : IsObjs w2.heap.size w2 p len cap l := (HI.out.below b12).mono b12.size
  have hR2 : IsIds w2.heap.size w2 q rl rc roots := (HR.out.below b12).mono b12.size
  have HSw : Hid (Calls Try.prog 14 #[.slice p len cap, .slice q rl rc] w2 (SweepPost w2 l roots)) := sweep_any p len cap q rl rc l roots (by omega) (by omega) (fun o ho => by have := hln o ho; omega) w2 hI2 hR2
  have HI2 := (show Hid (IsObjs _ _ _ _ _ _) from hI2)
  have HR2 := (show Hid (IsIds _ _ _ _ _ _) from hR2)
  clear hI2 hR2 HI HR HF b1 b2
  go_wp2_with (first
    | (go_at_call 14; refine HSw.out.mono ?_; rintro e w3 ⟨q1, n1, ks, q2, n2, rfl, hob, hkey, hgo, b3⟩))
  have HOb := (show Hid (IsObjs _ _ _ _ _ _) from hob)
  have HGo := (show Hid (IsIds _ _ _ _ _ _) from hgo)
  have HKey := (show Hid (_ = _) from hkey)
  have hkl := hob.1
  have hkc := hob.2.2.1
  have hgl := hgo.1
  have hgc := hgo.2.2.1
  have HB : Hid (Below w.heap.size w w3) := b12.trans (b3.mono b12.size)
  have HI3 : Hid (IsObjs w3.heap.size w3 p len cap l) := HI2.out.later b3
  have HR3 : Hid (IsIds w3.heap.size w3 q rl rc roots) := (HR2.out.below b3).mono b3.size
  have HFin : Hid ((l.filter fun o => decide (o.id ∈ linksL (goneL l roots))).length + n1 = len) := by
    have h5 := kept_gone l roots
    have h6 := congrArg List.length hkey
    simp only [List.length_map] at h6
    show _ = _
    omega
  clear hob hgo hkey b12 b3 HI2 HR2 HSw HFew hri hr20
  obtain ⟨gs, hgs⟩ : ∃ gs, linksL (goneL l roots) = gs := ⟨_, rfl⟩
  have HGr : Hid (∀ g ∈ gs, ∀ r ∈ roots, g ≠ r) := fun g hg r hr => gone_root (by rw [hgs]; exact hg) hr
  have HGk : Hid (∀ g ∈ gs, ∀ i, i < ks.length → allNe (ks.take i) (ks.getD i noO).id = true → ∀ x ∈ (ks.getD i noO).links, x ≠ g) := fun g hg i hi ha x hx => kept_link HKey.out hi (allNe_true ha) hx (by rw [hgs]; exact hg)
  have HGn : Hid (gs.Nodup) := by show List.Nodup _; rw [← hgs]; exact rising_nodup (linksL_rising _)
  rw [hgs] at HGo hgl HFin
  clear hgs HKey
  go_wp2
  go_loopw [41] (fun i wr => ∃ (k : Nat), k ≤ n2 ∧ i = .int .i64 k ∧ Below w3.heap.size w3 wr) (fun i _ => n2 - (intOf i).toNat)
  case atStart => exact ⟨0, Nat.zero_le _, rfl, Below.refl _ _⟩
  case round =>
    obtain ⟨k, hk, rfl, hb⟩ := hrel
    obtain ⟨W, rfl⟩ : ∃ W, W = wr := ⟨_, rfl⟩
    have hbs := hb.size
    have HBw := (show Hid (Below _ _ _) from hb)
    clear hb
    by_cases hlt : k < n2
    · have hki : (k : Int) < (n2 : Int) := by omega
      obtain ⟨gb, goff, rfl, hgb, hgr, hgid⟩ := (HGo.out.below HBw.out).at hlt
      have hgm : gs.getD k [] ∈ gs := ids_mem (by omega)
      have HRg := (show Hid (World.rangeAt _ _ _ _) from hgr)
      clear hgr
      generalize gs.getD k [] = g at *
      go_wp2_with (first
        | ((with_reducible show wpList _ _ _ (Oper.mk (some 44) (Op.load 33 _) _ _ _ _ :: _) _ _); refine wpList_loadId rfl (.tmp 43) rfl rfl hgid HRg.out ?_; simp only [Act.put, List.setIfInBounds_toArray, List.set_cons_zero, List.set_cons_succ])
        | ((with_reducible show wpList _ _ _ (Oper.mk none (Op.store 33 (.tmp 8) (.tmp 44)) _ _ _ _ :: _) _ _); rw [z32u8]; refine wpList_storeId rfl (.tmp 8) (.tmp 44) rfl hgid rfl rfl (fun Y2 b2 hR_ => ?_); have HG2 : Hid (Row Y2 W.heap.size 33 (u8s g)) := hR_; clear hR_; simp only [Act.put]))
      have b2s := b2.size
      have HB2 : Hid (Below w3.heap.size w3 Y2) := HBw.out.trans (b2.mono hbs)
      go_loopw [47] (fun i wr => ∃ (k2 : Nat), k2 ≤ rl ∧ i = .int .i64 k2 ∧ Below Y2.heap.size Y2 wr) (fun i _ => rl - (intOf i).toNat)
      case atStart => exact ⟨0, Nat.zero_le _, rfl, Below.refl _ _⟩
      case round =>
        obtain ⟨k2, hk2, rfl, hb⟩ := hrel
        obtain ⟨V, rfl⟩ : ∃ V, V = wr := ⟨_, rfl⟩
        have hbs2 := hb.size
        have HBv := (show Hid (Below _ _ _) from hb)
        clear hb
        by_cases hlt2 : k2 < rl
        · have hki2 : (k2 : Int) < (rl : Int) := by omega
          obtain ⟨rb, roff, rfl, hrb, hrr, hrid⟩ := ((HR3.out.below HB2.out).below (HBv.out.mono (by have := HB2.out.size; omega))).at hlt2
          have hne : g ≠ roots.getD k2 [] := HGr.out g hgm _ (ids_mem (by omega))
          have HRr := (show Hid (World.rangeAt _ _ _ _) from hrr)
          have HNe : Hid (g ≠ roots.getD k2 []) := hne
          have HG3 : Hid (Row V W.heap.size 33 (u8s g)) := HG2.out.below HBv.out HG2.out.lt
          clear hrr hne
          generalize roots.getD k2 [] = r at *
          go_wp2_with (first
            | ((with_reducible show wpList _ _ _ (Oper.mk (some 50) (Op.load 33 _) _ _ _ _ :: _) _ _); refine wpList_loadId rfl (.tmp 49) rfl rfl hrid HRr.out ?_; simp only [Act.put, List.setIfInBounds_toArray, List.set_cons_zero, List.set_cons_succ])
            | ((with_reducible show wpList _ _ _ (Oper.mk none (Op.store 33 (.tmp 10) (.tmp 50)) _ _ _ _ :: _) _ _); rw [z32u8]; refine wpList_storeId rfl (.tmp 10) (.tmp 50) rfl hrid rfl rfl (fun Y3 b3 hR_ => ?_); have HR4 : Hid (Row Y3 V.heap.size 33 (u8s r)) := hR_; clear hR_; simp only [Act.put])
            | ((with_reducible show wpList _ _ _ (Oper.mk (some 51) (Op.load 33 _) _ _ _ _ :: _) _ _); refine wpList_loadId rfl (.tmp 8) rfl rfl hgid (HG3.out.below b3 HG3.out.lt).range ?_; simp only [Act.put, List.setIfInBounds_toArray, List.set_cons_zero, List.set_cons_succ])
            | ((with_reducible show wpList _ _ _ (Oper.mk (some 52) (Op.load 33 _) _ _ _ _ :: _) _ _); refine wpList_loadId rfl (.tmp 10) rfl rfl hrid HR4.out.range ?_; simp only [Act.put, List.setIfInBounds_toArray, List.set_cons_zero, List.set_cons_succ])
            | ((with_reducible show wpList _ _ _ (Oper.mk (some 53) (Op.binOp _ 33 _ _ _) _ _ _ _ :: _) _ _); refine wpList_eqId (by rfl) (.tmp 51) (.tmp 52) rfl rfl rfl hgid hrid false (decide_eq_false HNe.out) ?_; simp only [Act.put, List.setIfInBounds_toArray, List.set_cons_zero, List.set_cons_succ]))
          go_roundw
          case rel => exact ⟨k2 + 1, by omega, by go_num, HBv.out.trans (b3.mono hbs2)⟩
          case measure => simp [intOf]; omega
        · obtain rfl : k2 = rl := by omega
          have HBv2 : Hid (Below w3.heap.size w3 V) := HB2.out.trans (HBv.out.mono (by have := HB2.out.size; omega))
          have HG3 : Hid (Row V W.heap.size 33 (u8s g)) := HG2.out.below HBv.out HG2.out.lt
          go_wp2
          go_loopw [57] (fun i wr => ∃ (k3 : Nat), k3 ≤ n1 ∧ i = .int .i64 k3 ∧ Below V.heap.size V wr) (fun i _ => n1 - (intOf i).toNat)
          case atStart => exact ⟨0, Nat.zero_le _, rfl, Below.refl _ _⟩
          case round =>
            obtain ⟨k3, hk3, rfl, hb⟩ := hrel
            obtain ⟨U, rfl⟩ : ∃ U, U = wr := ⟨_, rfl⟩
            have hbs3 := hb.size
            have HBu := (show Hid (Below _ _ _) from hb)
            clear hb
            by_cases hlt3 : k3 < n1
            · have hki3 : (k3 : Int) < (n1 : Int) := by omega
              have hki3' : (k3 : Int) ≤ (n1 : Int) := by omega
              have hk3l : k3 < ks.length := by omega
              have HBu2 : Hid (Below w3.heap.size w3 U) := HBv2.out.trans (HBu.out.mono (by have := HBv2.out.size; omega))
              obtain ⟨ob, ooff, rfl, hobb, hor, hok, hom⟩ := (HOb.out.below HBu2.out).at hlt3
              have HOr := (show Hid (World.rangeAt _ _ _ _) from hor)
              have HLk : Hid (IsIds w3.heap.size w3 (ks.getD k3 noO).q (ks.getD k3 noO).n (ks.getD k3 noO).c (ks.getD k3 noO).links) := HOb.out.2.2.2.2.1 _ hom
              have HNo : Hid (allNe (ks.take k3) (ks.getD k3 noO).id = true → ∀ x ∈ (ks.getD k3 noO).links, x ≠ g) := HGk.out g hgm k3 hk3l
              have HG4 : Hid (Row U W.heap.size 33 (u8s g)) := HG3.out.below HBu.out HG3.out.lt
              clear hor hom
              generalize ks.getD k3 noO = x at *
              go_wp2_with (first
                | ((with_reducible show wpList _ _ _ (Oper.mk (some 61) (Op.load 46 _) _ _ _ _ :: _) _ _); refine wpList_loadObj rfl (.tmp 60) rfl rfl hok HOr.out ?_; simp only [Act.put, List.setIfInBounds_toArray, List.set_cons_zero, List.set_cons_succ])
                | ((with_reducible show wpList _ _ _ (Oper.mk none (Op.store 46 (.tmp 12) (.tmp 61)) _ _ _ _ :: _) _ _); rw [zO]; refine wpList_storeObj rfl (.tmp 12) (.tmp 61) rfl x hok rfl rfl (fun Y4 b4 hE_ => ?_); have HE4 : Hid (ObjAt Y4 U.heap.size x) := hE_; clear hE_; simp only [Act.put]))
              have b4s := b4.size
              have HB4 : Hid (Below w3.heap.size w3 Y4) := HBu2.out.trans (b4.mono (by have := HBu2.out.size; omega))
              have HG5 : Hid (Row Y4 W.heap.size 33 (u8s g)) := HG4.out.below b4 HG4.out.lt
              go_loopw [13, 66] (fun v i wr => ∃ (k4 : Nat), k4 ≤ k3 ∧ i = .int .i64 k4 ∧ v = .bool (allNe (ks.take k4) x.id) ∧ Below Y4.heap.size Y4 wr) (fun _ i _ => k3 - (intOf i).toNat)
              case atStart => exact ⟨0, Nat.zero_le _, rfl, by simp [allNe], Below.refl _ _⟩
              case round =>
                obtain ⟨k4, hk4, rfl, rfl, hb⟩ := hrel
                obtain ⟨T, rfl⟩ : ∃ T, T = wr := ⟨_, rfl⟩
                have hbs4 := hb.size
                have HBt := (show Hid (Below _ _ _) from hb)
                clear hb
                by_cases hlt4 : k4 < k3
                · have hki4 : (k4 : Int) < (k3 : Int) := by omega
                  have HBt2 : Hid (Below w3.heap.size w3 T) := HB4.out.trans (HBt.out.mono (by have := HB4.out.size; omega))
                  obtain ⟨pb, poff, e5, hpbb, hpr, hpok, hpm⟩ := (HOb.out.below HBt2.out).at (show k4 < n1 by omega)
                  cases e5
                  have HPr := (show Hid (World.rangeAt _ _ _ _) from hpr)
                  have HAs : Hid (allNe (ks.take (k4 + 1)) x.id = (allNe (ks.take k4) x.id && decide ((ks.getD k4 noO).id ≠ x.id))) := by show _ = _; rw [obj_take ks (by omega), allNe_snoc]
                  have HE5 : Hid (ObjAt T U.heap.size x) := HE4.out.below HBt.out HE4.out.row.lt
                  clear hpr hpm
                  generalize ks.getD k4 noO = y at *
                  cases hbn : allNe (ks.take k4) x.id with
                  | false =>
                    rw [hbn] at HAs
                    go_wp2_with (first
                      | ((with_reducible show wpList _ _ _ (Oper.mk (some 69) (Op.load 46 _) _ _ _ _ :: _) _ _); refine wpList_loadObj rfl (.tmp 68) rfl rfl hpok HPr.out ?_; simp only [Act.put, List.setIfInBounds_toArray, List.set_cons_zero, List.set_cons_succ])
                      | ((with_reducible show wpList _ _ _ (Oper.mk none (Op.store 46 (.tmp 15) (.tmp 69)) _ _ _ _ :: _) _ _); rw [zO]; refine wpList_storeObj rfl (.tmp 15) (.tmp 69) rfl y hpok rfl rfl (fun Y5 b5 hE_ => ?_); have HE6 : Hid (ObjAt Y5 T.heap.size y) := hE_; clear hE_; simp only [Act.put]))
                    go_roundw
                    case rel => exact ⟨k4 + 1, by omega, by go_num, by rw [HAs.out]; rfl, HBt.out.trans (b5.mono hbs4)⟩
                    case measure => simp [intOf]; omega
                  | true =>
                    rw [hbn] at HAs
                    go_wp2_with (first
                      | ((with_reducible show wpList _ _ _ (Oper.mk (some 69) (Op.load 46 _) _ _ _ _ :: _) _ _); refine wpList_loadObj rfl (.tmp 68) rfl rfl hpok HPr.out ?_; simp only [Act.put, List.setIfInBounds_toArray, List.set_cons_zero, List.set_cons_succ])
                      | ((with_reducible show wpList _ _ _ (Oper.mk none (Op.store 46 (.tmp 15) (.tmp 69)) _ _ _ _ :: _) _ _); rw [zO]; refine wpList_storeObj rfl (.tmp 15) (.tmp 69) rfl y hpok rfl rfl (fun Y5 b5 hE_ => ?_); have HE6 : Hid (ObjAt Y5 T.heap.size y) := hE_; clear hE_; simp only [Act.put])
                      | ((with_reducible show wpList _ _ _ (Oper.mk (some 73) (Op.load 33 _) _ _ _ _ :: _) _ _); refine wpList_loadIdW (by rfl) (.tmp 72) rfl rfl hpok.1 HE6.out.id ?_; simp only [Act.put, List.setIfInBounds_toArray, List.set_cons_zero, List.set_cons_succ])
                      | ((with_reducible show wpList _ _ _ (Oper.mk (some 75) (Op.load 33 _) _ _ _ _ :: _) _ _); refine wpList_loadIdW (by rfl) (.tmp 74) rfl rfl hok.1 (HE5.out.later b5).id ?_; simp only [Act.put, List.setIfInBounds_toArray, List.set_cons_zero, List.set_cons_succ])
                      | ((with_reducible show wpList _ _ _ (Oper.mk (some 76) (Op.binOp _ 33 _ _ _) _ _ _ _ :: _) _ _); refine wpList_neId (by rfl) (.tmp 73) (.tmp 75) rfl rfl rfl hpok.1 hok.1 (decide (y.id ≠ x.id)) rfl ?_; simp only [Act.put, List.setIfInBounds_toArray, List.set_cons_zero, List.set_cons_succ]))
                    go_roundw
                    case rel => exact ⟨k4 + 1, by omega, by go_num, by rw [HAs.out, Bool.true_and]; simp, HBt.out.trans (b5.mono hbs4)⟩
                    case measure => simp [intOf]; omega
                · obtain rfl : k4 = k3 := by omega
                  have HBt2 : Hid (Below w3.heap.size w3 T) := HB4.out.trans (HBt.out.mono (by have := HB4.out.size; omega))
                  have hcl := (HE4.out.below HBt.out HE4.out.row.lt).links
                  have HG6 : Hid (Row T W.heap.size 33 (u8s g)) := HG5.out.below HBt.out HG5.out.lt
                  have hxn : x.links.length = x.n := HLk.out.1
                  have hxc := HLk.out.2.1
                  have hxc2 := HLk.out.2.2.1
                  go_wp2
                  go_loopw [82] (fun i wr => ∃ (k5 : Nat), k5 ≤ x.n ∧ i = .int .i64 k5 ∧ Below T.heap.size T wr) (fun i _ => x.n - (intOf i).toNat)
                  case atStart => exact ⟨0, Nat.zero_le _, rfl, Below.refl _ _⟩
                  case round =>
                    obtain ⟨k5, hk5, rfl, hb⟩ := hrel
                    obtain ⟨S, rfl⟩ : ∃ S, S = wr := ⟨_, rfl⟩
                    have hbs5 := hb.size
                    have HBs := (show Hid (Below _ _ _) from hb)
                    clear hb
                    by_cases hlt5 : k5 < x.n
                    · have hki5 : (k5 : Int) < (x.n : Int) := by omega
                      have HBs2 : Hid (Below w3.heap.size w3 S) := HBt2.out.trans (HBs.out.mono (by have := HBt2.out.size; omega))
                      obtain ⟨lb, loff, elq, hlb, hlr, hlid⟩ := (HLk.out.below HBs2.out).at hlt5
                      have hlm : x.links.getD k5 [] ∈ x.links := ids_mem (by omega)
                      have HLr := (show Hid (World.rangeAt _ _ _ _) from hlr)
                      have HN2 : Hid (allNe (ks.take k4) x.id = true → x.links.getD k5 [] ≠ g) := fun h => HNo.out h _ hlm
                      have HG7 : Hid (Row S W.heap.size 33 (u8s g)) := HG6.out.below HBs.out HG6.out.lt
                      rw [elq]
                      clear hlr hlm
                      generalize x.links.getD k5 [] = z at *
                      cases hbn : allNe (ks.take k4) x.id with
                      | false =>
                        go_wp2_with (first
                          | ((with_reducible show wpList _ _ _ (Oper.mk (some 85) (Op.load 33 _) _ _ _ _ :: _) _ _); refine wpList_loadId rfl (.tmp 84) rfl rfl hlid HLr.out ?_; simp only [Act.put, List.setIfInBounds_toArray, List.set_cons_zero, List.set_cons_succ])
                          | ((with_reducible show wpList _ _ _ (Oper.mk none (Op.store 33 (.tmp 17) (.tmp 85)) _ _ _ _ :: _) _ _); rw [z32u8]; refine wpList_storeId rfl (.tmp 17) (.tmp 85) rfl hlid rfl rfl (fun Y6 b6 hR_ => ?_); have HZ6 : Hid (Row Y6 S.heap.size 33 (u8s z)) := hR_; clear hR_; simp only [Act.put]))
                        go_roundw
                        case rel => exact ⟨k5 + 1, by omega, by go_num, HBs.out.trans (b6.mono hbs5)⟩
                        case measure => simp [intOf]; omega
                      | true =>
                        have HNz : Hid (z ≠ g) := HN2.out hbn
                        go_wp2_with (first
                          | ((with_reducible show wpList _ _ _ (Oper.mk (some 85) (Op.load 33 _) _ _ _ _ :: _) _ _); refine wpList_loadId rfl (.tmp 84) rfl rfl hlid HLr.out ?_; simp only [Act.put, List.setIfInBounds_toArray, List.set_cons_zero, List.set_cons_succ])
                          | ((with_reducible show wpList _ _ _ (Oper.mk none (Op.store 33 (.tmp 17) (.tmp 85)) _ _ _ _ :: _) _ _); rw [z32u8]; refine wpList_storeId rfl (.tmp 17) (.tmp 85) rfl hlid rfl rfl (fun Y6 b6 hR_ => ?_); have HZ6 : Hid (Row Y6 S.heap.size 33 (u8s z)) := hR_; clear hR_; simp only [Act.put])
                          | ((with_reducible show wpList _ _ _ (Oper.mk (some 88) (Op.load 33 _) _ _ _ _ :: _) _ _); refine wpList_loadIdW (by rfl) (.tmp 17) rfl rfl hlid HZ6.out.range ?_; simp only [Act.put, List.setIfInBounds_toArray, List.set_cons_zero, List.set_cons_succ])
                          | ((with_reducible show wpList _ _ _ (Oper.mk (some 89) (Op.load 33 _) _ _ _ _ :: _) _ _); refine wpList_loadIdW (by rfl) (.tmp 8) rfl rfl hgid (HG7.out.below b6 HG7.out.lt).range ?_; simp only [Act.put, List.setIfInBounds_toArray, List.set_cons_zero, List.set_cons_succ])
                          | ((with_reducible show wpList _ _ _ (Oper.mk (some 90) (Op.binOp _ 33 _ _ _) _ _ _ _ :: _) _ _); refine wpList_eqId (by rfl) (.tmp 88) (.tmp 89) rfl rfl rfl hlid hgid false (decide_eq_false HNz.out) ?_; simp only [Act.put, List.setIfInBounds_toArray, List.set_cons_zero, List.set_cons_succ]))
                        go_roundw
                        case rel => exact ⟨k5 + 1, by omega, by go_num, HBs.out.trans (b6.mono hbs5)⟩
                        case measure => simp [intOf]; omega
                    · obtain rfl : k5 = x.n := by omega
                      go_wp2
                      go_roundw
                      case rel => exact ⟨k4 + 1, by omega, by go_num, HBu.out.trans ((b4.mono hbs3).trans ((HBt.out.mono (by omega)).trans (HBs.out.mono (by omega))))⟩
                      case measure => simp [intOf]; omega
            · obtain rfl : k3 = n1 := by omega
              go_wp2
              go_roundw
              case rel => exact ⟨k + 1, by omega, by go_num, HBv2.out.trans (HBu.out.mono (by have := HBv2.out.size; omega))⟩
              case measure => simp [intOf]; omega
    · obtain rfl : k = n2 := by omega
      have hpl : ∀ (m : List O), (m.filter fun o => decide (o.id ∈ gs)).length ≤ m.length := fun m => List.length_filter_le _ _
      go_wp2
      go_loopw [18, 97] (fun v i wr => ∃ (k2 : Nat), k2 ≤ len ∧ i = .int .i64 k2 ∧ v = .int .i64 (((l.take k2).filter fun o => decide (o.id ∈ gs)).length : Nat) ∧ Below W.heap.size W wr) (fun _ i _ => len - (intOf i).toNat)
      case atStart => exact ⟨0, Nat.zero_le _, rfl, by simp, Below.refl _ _⟩
      case round =>
        obtain ⟨k2, hk2, rfl, rfl, hb⟩ := hrel
        obtain ⟨V, rfl⟩ : ∃ V, V = wr := ⟨_, rfl⟩
        have hbs2 := hb.size
        have HBv := (show Hid (Below _ _ _) from hb)
        clear hb
        by_cases hlt2 : k2 < len
        · have hki2 : (k2 : Int) < (len : Int) := by omega
          have HBv2 : Hid (Below w3.heap.size w3 V) := HBw.out.trans (HBv.out.mono hbs)
          obtain ⟨ob, ooff, rfl, hobb, hor, hok, hom⟩ := (HI3.out.below HBv2.out).at hlt2
          have HOr := (show Hid (World.rangeAt _ _ _ _) from hor)
          have HTk : Hid (((l.take (k2 + 1)).filter fun o => decide (o.id ∈ gs)).length = ((l.take k2).filter fun o => decide (o.id ∈ gs)).length + if (l.getD k2 noO).id ∈ gs then 1 else 0) := by
            show _ = _
            rw [obj_take l (by omega), cnt_snoc]
          have hcnt := hpl (l.take k2)
          have hcnt2 := List.length_take_le k2 l
          clear hor hom
          generalize l.getD k2 noO = x at *
          generalize ((l.take k2).filter fun o => decide (o.id ∈ gs)).length = cn at *
          go_wp2_with (first
            | ((with_reducible show wpList _ _ _ (Oper.mk (some 100) (Op.load 46 _) _ _ _ _ :: _) _ _); refine wpList_loadObj rfl (.tmp 99) rfl rfl hok HOr.out ?_; simp only [Act.put, List.setIfInBounds_toArray, List.set_cons_zero, List.set_cons_succ])
            | ((with_reducible show wpList _ _ _ (Oper.mk none (Op.store 46 (.tmp 20) (.tmp 100)) _ _ _ _ :: _) _ _); rw [zO]; refine wpList_storeObj rfl (.tmp 20) (.tmp 100) rfl x hok rfl rfl (fun Y2 b2 hE_ => ?_); have HE2 : Hid (ObjAt Y2 V.heap.size x) := hE_; clear hE_; simp only [Act.put]))
          have b2s := b2.size
          have HB2 : Hid (Below w3.heap.size w3 Y2) := HBv2.out.trans (b2.mono (by have := HBv2.out.size; omega))
          go_loopw [18, 103] (fun v i wr => ∃ (k7 : Nat), k7 ≤ k ∧ i = .int .i64 k7 ∧ v = .int .i64 ((cn + if x.id ∈ gs.take k7 then 1 else 0 : Nat) : Int) ∧ Below Y2.heap.size Y2 wr) (fun _ i _ => k - (intOf i).toNat)
          case atStart => exact ⟨0, Nat.zero_le _, rfl, by simp, Below.refl _ _⟩
          case round =>
            obtain ⟨k7, hk7, rfl, rfl, hb⟩ := hrel
            obtain ⟨U, rfl⟩ : ∃ U, U = wr := ⟨_, rfl⟩
            have hbs3 := hb.size
            have HBu := (show Hid (Below _ _ _) from hb)
            clear hb
            by_cases hlt7 : k7 < k
            · have hki7 : (k7 : Int) < (k : Int) := by omega
              have hk7l : k7 < gs.length := by omega
              obtain ⟨gb, goff, rfl, hgb, hgr, hgid⟩ := ((HGo.out.below HB2.out).below (HBu.out.mono (by have := HB2.out.size; omega))).at hlt7
              have HRg := (show Hid (World.rangeAt _ _ _ _) from hgr)
              have HE3 : Hid (ObjAt U V.heap.size x) := HE2.out.below HBu.out HE2.out.row.lt
              have HT7 : Hid (gs.take (k7 + 1) = gs.take k7 ++ [gs.getD k7 []]) := ids_take gs hk7l
              have HNd : Hid (gs.getD k7 [] ∉ gs.take k7) := by
                intro hm
                have hnd := HGn.out
                rw [ids_next gs hk7l, List.nodup_append] at hnd
                exact hnd.2.2 _ hm _ (by simp) rfl
              clear hgr
              generalize gs.getD k7 [] = g at *
              by_cases hxe : x.id = g
              · have HN0 : Hid ((if x.id ∈ gs.take k7 then 1 else 0) = 0) := if_neg (by rw [hxe]; exact HNd.out)
                have HN1 : Hid ((if x.id ∈ gs.take (k7 + 1) then 1 else 0) = 1) := if_pos (by rw [HT7.out, hxe]; simp)
                rw [HN0.out]
                go_wp2_with (first
                  | ((with_reducible show wpList _ _ _ (Oper.mk (some 106) (Op.load 33 _) _ _ _ _ :: _) _ _); refine wpList_loadId rfl (.tmp 105) rfl rfl hgid HRg.out ?_; simp only [Act.put, List.setIfInBounds_toArray, List.set_cons_zero, List.set_cons_succ])
                  | ((with_reducible show wpList _ _ _ (Oper.mk none (Op.store 33 (.tmp 22) (.tmp 106)) _ _ _ _ :: _) _ _); rw [z32u8]; refine wpList_storeId rfl (.tmp 22) (.tmp 106) rfl hgid rfl rfl (fun Y3 b3 hR_ => ?_); have HG3 : Hid (Row Y3 U.heap.size 33 (u8s g)) := hR_; clear hR_; simp only [Act.put])
                  | ((with_reducible show wpList _ _ _ (Oper.mk (some 108) (Op.load 33 _) _ _ _ _ :: _) _ _); refine wpList_loadId rfl (.tmp 107) rfl rfl hok.1 (HE3.out.later b3).id ?_; simp only [Act.put, List.setIfInBounds_toArray, List.set_cons_zero, List.set_cons_succ])
                  | ((with_reducible show wpList _ _ _ (Oper.mk (some 109) (Op.load 33 _) _ _ _ _ :: _) _ _); refine wpList_loadId rfl (.tmp 22) rfl rfl hgid HG3.out.range ?_; simp only [Act.put, List.setIfInBounds_toArray, List.set_cons_zero, List.set_cons_succ])
                  | ((with_reducible show wpList _ _ _ (Oper.mk (some 110) (Op.binOp _ 33 _ _ _) _ _ _ _ :: _) _ _); refine wpList_eqId (by rfl) (.tmp 108) (.tmp 109) rfl rfl rfl hok.1 hgid true (decide_eq_true hxe) ?_; simp only [Act.put, List.setIfInBounds_toArray, List.set_cons_zero, List.set_cons_succ]))
                go_roundw
                case rel => exact ⟨k7 + 1, by omega, by go_num, by rw [HN1.out]; go_num, HBu.out.trans (b3.mono hbs3)⟩
                case measure => simp [intOf]; omega
              · have HN1 : Hid ((if x.id ∈ gs.take (k7 + 1) then 1 else 0) = (if x.id ∈ gs.take k7 then 1 else 0)) := by
                  show _ = _
                  rw [HT7.out]
                  simp [hxe]
                generalize (if x.id ∈ gs.take k7 then 1 else 0 : Nat) = e7 at *
                go_wp2_with (first
                  | ((with_reducible show wpList _ _ _ (Oper.mk (some 106) (Op.load 33 _) _ _ _ _ :: _) _ _); refine wpList_loadId rfl (.tmp 105) rfl rfl hgid HRg.out ?_; simp only [Act.put, List.setIfInBounds_toArray, List.set_cons_zero, List.set_cons_succ])
                  | ((with_reducible show wpList _ _ _ (Oper.mk none (Op.store 33 (.tmp 22) (.tmp 106)) _ _ _ _ :: _) _ _); rw [z32u8]; refine wpList_storeId rfl (.tmp 22) (.tmp 106) rfl hgid rfl rfl (fun Y3 b3 hR_ => ?_); have HG3 : Hid (Row Y3 U.heap.size 33 (u8s g)) := hR_; clear hR_; simp only [Act.put])
                  | ((with_reducible show wpList _ _ _ (Oper.mk (some 108) (Op.load 33 _) _ _ _ _ :: _) _ _); refine wpList_loadId rfl (.tmp 107) rfl rfl hok.1 (HE3.out.later b3).id ?_; simp only [Act.put, List.setIfInBounds_toArray, List.set_cons_zero, List.set_cons_succ])
                  | ((with_reducible show wpList _ _ _ (Oper.mk (some 109) (Op.load 33 _) _ _ _ _ :: _) _ _); refine wpList_loadId rfl (.tmp 22) rfl rfl hgid HG3.out.range ?_; simp only [Act.put, List.setIfInBounds_toArray, List.set_cons_zero, List.set_cons_succ])
                  | ((with_reducible show wpList _ _ _ (Oper.mk (some 110) (Op.binOp _ 33 _ _ _) _ _ _ _ :: _) _ _); refine wpList_eqId (by rfl) (.tmp 108) (.tmp 109) rfl rfl rfl hok.1 hgid false (decide_eq_false hxe) ?_; simp only [Act.put, List.setIfInBounds_toArray, List.set_cons_zero, List.set_cons_succ]))
                go_roundw
                case rel => exact ⟨k7 + 1, by omega, by go_num, by rw [HN1.out], HBu.out.trans (b3.mono hbs3)⟩
                case measure => simp [intOf]; omega
            · obtain rfl : k7 = k := by omega
              rw [List.take_of_length_le (by omega)]
              go_wp2
              go_roundw
              case rel => exact ⟨k2 + 1, by omega, by go_num, by rw [HTk.out], HBv.out.trans ((b2.mono hbs2).trans (HBu.out.mono (by omega)))⟩
              case measure => simp [intOf]; omega
        · obtain rfl : k2 = len := by omega
          have hfin := HFin.out
          rw [List.take_of_length_le (by omega)]
          generalize (l.filter fun o => decide (o.id ∈ gs)).length = cn at *
          go_wp2
          go_ret
          have hs : ((cn : Int) + (n1 : Int) == (k2 : Int)) = true := by simp; omega
          refine ⟨?_, HB.out.trans ((HBw.out.trans (HBv.out.mono hbs)).mono HB.out.size)⟩
          show Ending.returned (Value.bool ((cn : Int) + (n1 : Int) == (k2 : Int))) = _
          rw [hs]
end Go.Proofs.Ytfclbdlkpnoceaa
