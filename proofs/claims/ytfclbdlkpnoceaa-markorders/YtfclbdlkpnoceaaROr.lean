/-
  The reference's Order, within a round.
-/
import Derived.Test.YtfclbdlkpnoceaaRCut
namespace Go.Proofs.Ytfclbdlkpnoceaa
open Go.RowKit Go.Shelf Go.Maps
attribute [local go_sem] Oper.semAt_some

/-- Between two rounds. -/
structure OrO (Z : Nat) (w : World) (l left out : List O) (ql : Option Addr) (nl cl : Nat) (v5 : Value) (A : World) : Prop where
  hl : IsObjs A.heap.size A ql nl cl left
  ho : OwnO Z A v5 out
  size : Z ≤ A.heap.size
  below : Below Z w A
  aside : 0 < nl → ∀ a, ql = some a → a.block < A.heap.size ∧ v5.ownBlock ≠ some a.block
  leftl : ∀ o ∈ left, o ∈ l
  outl : ∀ o ∈ out, o ∈ l
  few : left.length + out.length = l.length
  ans : orderF l left.length left out = orderL l
/-- Within a round: the place that is found so far. -/
def OrN (l out left : List O) (nl : Nat) (A₀ : World) (v6 v19 : Value) (A : World) : Prop :=
  ∃ (k : Nat), k ≤ nl ∧ v19 = .int .i64 (k : Nat) ∧ v6 = .int .i64 (placeI ((left.take k).findIdx? (freeO l out))) ∧ Below A₀.heap.size A₀ A

set_option maxRecDepth 100000 in
set_option maxHeartbeats 1000000 in
theorem refOrder_any (p : Option Addr) (len cap : Nat) (l : List O) (hlen : len ≤ 100) (w : World) (hI : IsObjs w.heap.size w p len cap l) :
    Calls Try.prog 18 #[.slice p len cap] w fun e w' => ((orderL l = none ∧ e = .returned (.tuple #[.slice none 0 0, .bool false])) ∨ (∃ out q n c, orderL l = some out ∧ e = .returned (.tuple #[.slice q n c, .bool true]) ∧ IsObjs w'.heap.size w' q n c out)) ∧ Below w.heap.size w w' := by
  obtain ⟨j0, hj0, hy0, hy1, hy2⟩ := info_parts info46
  have HI : Hid (IsObjs w.heap.size w p len cap l) := hI
  have hll := hI.1
  obtain ⟨v4, w1, hr4, ho4, hg4, hob4⟩ := run_append_objs w w.heap.size (.slice none 0 0) [] (OwnO.nil _ _) hI (by simp; omega) (Nat.le_refl _)
  rw [List.nil_append] at ho4
  have b1 : Below w.heap.size w w1 := below_grown (OwnO.nil _ _) (Nat.le_refl _) hg4
  obtain ⟨q4, c4, e4⟩ := ho4.slice
  rw [hll] at e4
  subst e4
  have hleft : IsObjs w1.heap.size w1 q4 len c4 l := ho4.objs hll (fun o ho => hI.2.2.2.1 o ho) (fun o ho => ((hI.2.2.2.2.1 o ho).below b1).mono b1.size)
  have HRun := (show Hid (_ = _) from hr4)
  have HO0 : Hid (OrO w.heap.size w l l [] q4 len c4 (.slice none 0 0) w1) := ⟨hleft, OwnO.nil _ _, b1.size, b1, fun hp a ha => ⟨by obtain ⟨b, off, e, hb, _⟩ := hleft.at hp; rw [e] at ha; cases ha; exact hb, by simp [Value.ownBlock]⟩, fun _ h => h, by simp, by simp, by unfold orderL; rfl⟩
  clear hI hr4 ho4 hg4 hob4 hleft
  go_enter Try.func18, Try.ntmps18
  go_wp2_with (first
    | ((with_reducible show wpList _ _ _ (Oper.mk (some 13) (_) _ _ _ _ :: _) _ _); refine wpList_plain rfl (fun K hK => wp_append_of _ (.tmp 12) 22 rfl rfl rfl HRun.out (hK _ _ ?_)); simp only [Act.put, List.setIfInBounds_toArray, List.set_cons_zero, List.set_cons_succ]))
  generalize hZ : w.heap.size = Z at *
  have HSf : Hid (∀ left out ql nl cl v5 A, OrO Z w l left out ql nl cl v5 A → ∃ q5 c5, v5 = .slice q5 out.length c5 ∧ IsObjs A.heap.size A q5 out.length c5 out) := fun left out ql nl cl v5 A h => by
    obtain ⟨q5, c5, rfl⟩ := h.ho.slice
    exact ⟨q5, c5, rfl, h.ho.objs rfl (fun o ho => HI.out.2.2.2.1 o (h.outl o ho)) (fun o ho => ((HI.out.2.2.2.2.1 o (h.outl o ho)).below h.below).mono h.size)⟩
  go_loopw [4, 5] (fun v4 v5 wr => ∃ left out ql nl cl, v4 = .slice ql nl cl ∧ OrO Z w l left out ql nl cl v5 wr) (fun v4 _ _ => lenV v4)
  case atStart => exact ⟨l, [], q4, len, c4, rfl, HO0.out⟩
  case round =>
    obtain ⟨left, out, ql, nl, cl, rfl, hO⟩ := hrel
    obtain ⟨q5, c5, rfl, hou⟩ := HSf.out _ _ _ _ _ _ _ hO
    have HO := (show Hid (OrO _ _ _ _ _ _ _ _ _ _) from hO)
    have hnl := hO.hl.1
    have hncl := hO.hl.2.1
    have hccl := hO.hl.2.2.1
    have hfew := hO.few
    by_cases hn0 : nl = 0
    · subst hn0
      have he : left = [] := List.eq_nil_of_length_eq_zero hnl
      have hans : orderL l = some out := by rw [← hO.ans, he]; unfold orderF; rfl
      have HOu := (show Hid (IsObjs _ _ _ _ _ _) from hou)
      have HBl := (show Hid (Below _ _ _) from hO.below)
      clear hO hou HO HO0 hfew
      generalize hog : out.length = on at *
      go_wp2
      refine bodyPost_ret (results_tmp2 rfl _ _ _) rfl ?_
      exact ⟨.inr ⟨out, q5, on, c5, hans, rfl, HOu.out⟩, by rw [hZ]; exact HBl.out⟩
    · have hnp : (0 : Int) < (nl : Int) := by omega
      have HOu := (show Hid (IsObjs _ _ _ _ _ _) from hou)
      obtain ⟨lb, loff, rfl, hlb, _⟩ := hO.hl.at (show 0 < nl by omega)
      obtain ⟨W, hW⟩ : ∃ W, W = wr := ⟨_, rfl⟩
      subst hW
      have hos := hO.size
      clear hO hou HO0
      go_wp2
      rw [show decide (0 < nl) = true from decide_eq_true (by omega)]
      go_loopw [6, 19] (fun v6 v19 wr => OrN l out left nl W v6 v19 wr) (fun _ i _ => nl - (intOf i).toNat)
      case atStart => exact ⟨0, Nat.zero_le _, rfl, rfl, Below.refl _ _⟩
      case round =>
        obtain ⟨k, hk, rfl, rfl, hb⟩ := hrel
        obtain ⟨U, hU⟩ : ∃ U, U = wr := ⟨_, rfl⟩
        subst hU
        have hbs := hb.size
        have HBu := (show Hid (Below _ _ _) from hb)
        clear hb
        by_cases hlt : k < nl
        · have hki : (k : Int) < (nl : Int) := by omega
          obtain ⟨xb, xoff, ex, hxb, hxr, hok, hxm⟩ := (HO.out.hl.below HBu.out).at hlt
          cases ex
          have HRo := (show Hid (World.rangeAt _ _ _ _) from hxr)
          have HTk : Hid ((left.take (k + 1)).findIdx? (freeO l out) = match (left.take k).findIdx? (freeO l out) with | some j => some j | none => if freeO l out (left.getD k noO) = true then some k else none) := by
            show _ = _
            rw [obj_take left (by omega), findIdx_snoc, List.length_take, Nat.min_eq_left (by omega)]; cases List.findIdx? (freeO l out) (List.take k left) <;> rfl
          have HLx : Hid (IsIds Z W (left.getD k noO).q (left.getD k noO).n (left.getD k noO).c (left.getD k noO).links) := (HI.out.2.2.2.2.1 _ (HO.out.leftl _ hxm)).below HO.out.below
          clear hxr hxm
          generalize left.getD k noO = x at *
          have hxn : x.links.length = x.n := HLx.out.1
          have hxc := HLx.out.2.1
          have hxcc := HLx.out.2.2.1
          obtain ⟨fi, hfi⟩ : ∃ fi, (left.take k).findIdx? (freeO l out) = fi := ⟨_, rfl⟩
          rw [hfi] at HTk ⊢
          clear hfi
          go_wp2_with (first
            | ((with_reducible show wpList _ _ _ (Oper.mk (some 23) (Op.load 46 _) _ _ _ _ :: _) _ _); refine wpList_loadObj rfl (.tmp 22) rfl rfl hok HRo.out ?_; simp only [Act.put, List.setIfInBounds_toArray, List.set_cons_zero, List.set_cons_succ])
            | ((with_reducible show wpList _ _ _ (Oper.mk none (Op.store 46 (.tmp 8) (.tmp 23)) _ _ _ _ :: _) _ _); rw [zO]; refine wpList_storeObj rfl (.tmp 8) (.tmp 23) rfl x hok rfl rfl (fun Y2 b2 hE_ => ?_); have hcl := hE_.links; clear hE_; simp only [Act.put]))
          have b2s := b2.size
          go_loopw [9, 29] (fun v9 v29 wr => ∃ (k3 : Nat), k3 ≤ x.n ∧ v29 = .int .i64 (k3 : Nat) ∧ v9 = .bool (decide (placeI fi < 0) && (x.links.take k3).all (okL l out)) ∧ Below Y2.heap.size Y2 wr) (fun _ i _ => x.n - (intOf i).toNat)
          case atStart => exact ⟨0, Nat.zero_le _, rfl, by simp, Below.refl _ _⟩
          case round =>
            obtain ⟨k3, hk3, rfl, rfl, hb⟩ := hrel
            obtain ⟨T, hT⟩ : ∃ T, T = wr := ⟨_, rfl⟩
            subst hT
            have hbs3 := hb.size
            have HBt := (show Hid (Below _ _ _) from hb)
            clear hb
            have HBt2 : Hid (Below W.heap.size W T) := HBu.out.trans ((b2.mono hbs).trans (HBt.out.mono (by omega)))
            by_cases hlt3 : k3 < x.n
            · have hki3 : (k3 : Int) < (x.n : Int) := by omega
              obtain ⟨yb, yoff, ey, hyb, hyr, hyid⟩ := (HLx.out.below (HBt2.out.mono hos)).at hlt3
              have HRy := (show Hid (World.rangeAt _ _ _ _) from hyr)
              have HAl : Hid ((x.links.take (k3 + 1)).all (okL l out) = ((x.links.take k3).all (okL l out) && okL l out (x.links.getD k3 []))) := by show _ = _; rw [ids_take x.links (by omega)]; simp
              rw [ey]
              clear hyr
              generalize x.links.getD k3 [] = y at *
              have HFo : Hid (∀ Y, Below T.heap.size T Y → Calls Try.prog 19 #[.slice q5 out.length c5, idV y] Y fun e w' => e = .returned (.int .i64 (placeO out y)) ∧ Below Y.heap.size Y w') := fun Y hY => find_any _ _ _ out y hyid Y ((HOu.out.later HBt2.out).later hY)
              have HFl : Hid (∀ Y, Below T.heap.size T Y → Calls Try.prog 19 #[.slice p len cap, idV y] Y fun e w' => e = .returned (.int .i64 (placeO l y)) ∧ Below Y.heap.size Y w') := fun Y hY => find_any _ _ _ l y hyid Y ((((HI.out.below HO.out.below).below (HBt2.out.mono hos)).below (hY.mono (by have := HBt2.out.size; omega))).mono (by have := HBt2.out.size; have := hY.size; omega))
              have HPo := (show Hid (_ ↔ _) from @hasO_place out y)
              have HPl := (show Hid (_ ↔ _) from @hasO_place l y)
              obtain ⟨al, hal⟩ : ∃ al, (decide (placeI fi < 0) && (x.links.take k3).all (okL l out)) = al := ⟨_, rfl⟩
              have HAl2 : Hid ((decide (placeI fi < 0) && (x.links.take (k3 + 1)).all (okL l out)) = (al && okL l out y)) := by show _ = _; rw [HAl.out, ← Bool.and_assoc, hal]
              rw [hal]
              clear HAl hal
              generalize placeO out y = po at *
              generalize placeO l y = pl at *
              generalize out.length = onn at *
              cases al with
              | false =>
                go_wp2_with (first
                  | ((with_reducible show wpList _ _ _ (Oper.mk (some 32) (Op.load 33 _) _ _ _ _ :: _) _ _); refine wpList_loadId rfl (.tmp 31) rfl rfl hyid HRy.out ?_; simp only [Act.put, List.setIfInBounds_toArray, List.set_cons_zero, List.set_cons_succ])
                  | ((with_reducible show wpList _ _ _ (Oper.mk none (Op.store 33 (.tmp 11) (.tmp 32)) _ _ _ _ :: _) _ _); rw [z32u8]; refine wpList_storeId rfl (.tmp 11) (.tmp 32) rfl hyid rfl rfl (fun Y3 b3 hR_ => ?_); have HY3 : Hid (Row Y3 T.heap.size 33 (u8s y)) := hR_; clear hR_; simp only [Act.put]))
                go_roundw
                case rel => exact ⟨k3 + 1, by omega, by go_num, by rw [HAl2.out]; rfl, HBt.out.trans (b3.mono hbs3)⟩
                case measure => simp [intOf]; omega
              | true =>
                by_cases hpo : po < 0
                · have hpo' : ¬ 0 ≤ po := by omega
                  have hpd : decide (0 ≤ po) = false := decide_eq_false hpo'
                  have h1 := HPo.out.1 hpo
                  by_cases hpl : pl < 0
                  · have h2 := HPl.out.1 hpl
                    go_wp2_with (first
                      | ((with_reducible show wpList _ _ _ (Oper.mk (some 32) (Op.load 33 _) _ _ _ _ :: _) _ _); refine wpList_loadId rfl (.tmp 31) rfl rfl hyid HRy.out ?_; simp only [Act.put, List.setIfInBounds_toArray, List.set_cons_zero, List.set_cons_succ])
                      | ((with_reducible show wpList _ _ _ (Oper.mk none (Op.store 33 (.tmp 11) (.tmp 32)) _ _ _ _ :: _) _ _); rw [z32u8]; refine wpList_storeId rfl (.tmp 11) (.tmp 32) rfl hyid rfl rfl (fun Y3 b3 hR_ => ?_); have HY3 : Hid (Row Y3 T.heap.size 33 (u8s y)) := hR_; clear hR_; simp only [Act.put])
                      | ((with_reducible show wpList _ _ _ (Oper.mk (some 36) (Op.load 33 _) _ _ _ _ :: _) _ _); refine wpList_loadIdV (by rfl) (.tmp 11) rfl rfl hyid HY3.out.range ?_; simp only [Act.put, List.setIfInBounds_toArray, List.set_cons_zero, List.set_cons_succ])
                      | (go_at_call 19; refine (HFo.out Y3 b3).mono ?_; rintro e Y4 ⟨rfl, b4⟩; have HY4 : Hid (Row Y4 T.heap.size 33 (u8s y)) := HY3.out.below b4 HY3.out.lt; clear HFo)
                      | ((with_reducible show wpList _ _ _ (Oper.mk (some 41) (Op.load 33 _) _ _ _ _ :: _) _ _); refine wpList_loadIdV (by rfl) (.tmp 11) rfl rfl hyid HY4.out.range ?_; simp only [Act.put, List.setIfInBounds_toArray, List.set_cons_zero, List.set_cons_succ])
                      | (go_at_call 19; refine (HFl.out Y4 (b3.trans (b4.mono b3.size))).mono ?_; rintro e Y5 ⟨rfl, b5⟩))
                    go_roundw
                    case rel => exact ⟨k3 + 1, by omega, by go_num, by rw [HAl2.out]; unfold okL; rw [h1, h2]; rfl, HBt.out.trans ((b3.mono hbs3).trans ((b4.mono (by have := b3.size; omega)).trans (b5.mono (by have := b3.size; have := b4.size; omega))))⟩
                    case measure => simp [intOf]; omega
                  · have h2 : hasO l y = true := by cases hh : hasO l y with
                      | true => rfl
                      | false => exact absurd (HPl.out.2 hh) hpl
                    go_wp2_with (first
                      | ((with_reducible show wpList _ _ _ (Oper.mk (some 32) (Op.load 33 _) _ _ _ _ :: _) _ _); refine wpList_loadId rfl (.tmp 31) rfl rfl hyid HRy.out ?_; simp only [Act.put, List.setIfInBounds_toArray, List.set_cons_zero, List.set_cons_succ])
                      | ((with_reducible show wpList _ _ _ (Oper.mk none (Op.store 33 (.tmp 11) (.tmp 32)) _ _ _ _ :: _) _ _); rw [z32u8]; refine wpList_storeId rfl (.tmp 11) (.tmp 32) rfl hyid rfl rfl (fun Y3 b3 hR_ => ?_); have HY3 : Hid (Row Y3 T.heap.size 33 (u8s y)) := hR_; clear hR_; simp only [Act.put])
                      | ((with_reducible show wpList _ _ _ (Oper.mk (some 36) (Op.load 33 _) _ _ _ _ :: _) _ _); refine wpList_loadIdV (by rfl) (.tmp 11) rfl rfl hyid HY3.out.range ?_; simp only [Act.put, List.setIfInBounds_toArray, List.set_cons_zero, List.set_cons_succ])
                      | (go_at_call 19; refine (HFo.out Y3 b3).mono ?_; rintro e Y4 ⟨rfl, b4⟩; have HY4 : Hid (Row Y4 T.heap.size 33 (u8s y)) := HY3.out.below b4 HY3.out.lt; clear HFo)
                      | ((with_reducible show wpList _ _ _ (Oper.mk (some 41) (Op.load 33 _) _ _ _ _ :: _) _ _); refine wpList_loadIdV (by rfl) (.tmp 11) rfl rfl hyid HY4.out.range ?_; simp only [Act.put, List.setIfInBounds_toArray, List.set_cons_zero, List.set_cons_succ])
                      | (go_at_call 19; refine (HFl.out Y4 (b3.trans (b4.mono b3.size))).mono ?_; rintro e Y5 ⟨rfl, b5⟩))
                    go_roundw
                    case rel => exact ⟨k3 + 1, by omega, by go_num, by rw [HAl2.out]; unfold okL; rw [h1, h2, decide_eq_false (by omega : ¬ pl < 0)]; rfl, HBt.out.trans ((b3.mono hbs3).trans ((b4.mono (by have := b3.size; omega)).trans (b5.mono (by have := b3.size; have := b4.size; omega))))⟩
                    case measure => simp [intOf]; omega
                · have hpo' : 0 ≤ po := by omega
                  have hpd : decide (0 ≤ po) = true := decide_eq_true hpo'
                  have h1 : hasO out y = true := by cases hh : hasO out y with
                    | true => rfl
                    | false => exact absurd (HPo.out.2 hh) hpo
                  go_wp2_with (first
                    | ((with_reducible show wpList _ _ _ (Oper.mk (some 32) (Op.load 33 _) _ _ _ _ :: _) _ _); refine wpList_loadId rfl (.tmp 31) rfl rfl hyid HRy.out ?_; simp only [Act.put, List.setIfInBounds_toArray, List.set_cons_zero, List.set_cons_succ])
                    | ((with_reducible show wpList _ _ _ (Oper.mk none (Op.store 33 (.tmp 11) (.tmp 32)) _ _ _ _ :: _) _ _); rw [z32u8]; refine wpList_storeId rfl (.tmp 11) (.tmp 32) rfl hyid rfl rfl (fun Y3 b3 hR_ => ?_); have HY3 : Hid (Row Y3 T.heap.size 33 (u8s y)) := hR_; clear hR_; simp only [Act.put])
                    | ((with_reducible show wpList _ _ _ (Oper.mk (some 36) (Op.load 33 _) _ _ _ _ :: _) _ _); refine wpList_loadIdV (by rfl) (.tmp 11) rfl rfl hyid HY3.out.range ?_; simp only [Act.put, List.setIfInBounds_toArray, List.set_cons_zero, List.set_cons_succ])
                    | (go_at_call 19; refine (HFo.out Y3 b3).mono ?_; rintro e Y4 ⟨rfl, b4⟩; have HY4 : Hid (Row Y4 T.heap.size 33 (u8s y)) := HY3.out.below b4 HY3.out.lt; clear HFo))
                  go_roundw
                  case rel => exact ⟨k3 + 1, by omega, by go_num, by rw [HAl2.out]; unfold okL; rw [h1]; rfl, HBt.out.trans ((b3.mono hbs3).trans (b4.mono (by have := b3.size; omega)))⟩
                  case measure => simp [intOf]; omega
            · obtain rfl : k3 = x.n := by omega
              have HFr : Hid ((x.links.take x.n).all (okL l out) = freeO l out x) := by show _ = _; rw [List.take_of_length_le (by omega)]; rfl
              rw [HFr.out]
              have HBw : Hid (Below W.heap.size W T) := HBt2.out
              cases fi with
              | some j =>
                have hj : ¬ (placeI (some j) < 0) := by show ¬ ((j : Int) < 0); omega
                rw [decide_eq_false hj, Bool.false_and]
                go_wp2
                go_roundw
                case rel => exact ⟨k + 1, by omega, by go_num, by rw [HTk.out], HBw.out⟩
                case measure => simp [intOf]; omega
              | none =>
                rw [show decide (placeI none < 0) = true from rfl, Bool.true_and]
                cases hfx : freeO l out x with
                | true =>
                  rw [hfx] at HTk
                  go_wp2
                  go_roundw
                  case rel => exact ⟨k + 1, by omega, by go_num, by rw [HTk.out]; rfl, HBw.out⟩
                  case measure => simp [intOf]; omega
                | false =>
                  rw [hfx] at HTk
                  go_wp2
                  go_roundw
                  case rel => exact ⟨k + 1, by omega, by go_num, by rw [HTk.out]; rfl, HBw.out⟩
                  case measure => simp [intOf]; omega
        · obtain rfl : k = nl := by omega
          rw [List.take_of_length_le (by omega)]
          obtain ⟨o, r, hor⟩ : ∃ o r, left = o :: r := by cases left with
            | nil => exact absurd hnl.symm hn0
            | cons o r => exact ⟨o, r, rfl⟩
          cases hfi : left.findIdx? (freeO l out) with
          | none =>
            have hans : orderL l = none := by
              rw [← HO.out.ans, hor]
              rw [hor] at hfi
              rw [List.length_cons, orderF, hfi]
            have HBl : Hid (Below Z w U) := HO.out.below.trans (HBu.out.mono hos)
            clear HO HOu HSf hor
            show _
            rw [show placeI none = -1 from rfl]
            go_wp2
            refine bodyPost_ret (results_tmp2 rfl _ _ _) rfl ?_
            exact ⟨.inl ⟨hans, rfl⟩, by rw [hZ]; exact HBl.out⟩
          | some kk =>
            obtain ⟨hkl, hkf, hkn⟩ := List.findIdx?_eq_some_iff_getElem.1 hfi
            have hkk : kk < k := by omega
            have hans : orderF l (left.length - 1) (left.eraseIdx kk) (out ++ [left.getD kk noO]) = orderL l := by
              rw [← HO.out.ans, hor]
              rw [hor] at hfi
              rw [List.length_cons, orderF, hfi]
              rfl
            obtain ⟨xb, xoff, ex, hxb, hxr, hok, hxm⟩ := (HO.out.hl.below HBu.out).at hkk
            cases ex
            have hxl := HO.out.leftl _ hxm
            have hBU : Below Z w U := HO.out.below.trans (HBu.out.mono hos)
            have hoU : OwnO Z U (.slice q5 out.length c5) out := HO.out.ho.later HBu.out
            have hb4 : Below U.heap.size U (U.alloc (.cells (objC (left.getD kk noO)).toArray 46)) := (Below.refl _ U).alloc (Nat.le_refl _) _
            have hone : IsObjs (U.heap.size + 1) (U.alloc (.cells (objC (left.getD kk noO)).toArray 46)) (some ⟨U.heap.size, 0, none⟩) 1 1 [left.getD kk noO] := ⟨rfl, Nat.le_refl _, by omega, fun o ho => by simp only [List.mem_singleton] at ho; subst ho; exact hok, fun o ho => by simp only [List.mem_singleton] at ho; subst ho; exact ((((HI.out.2.2.2.2.1 _ hxl).below hBU).below (hb4.mono (by omega))).mono (by omega)), .inr ⟨U.heap.size, 0, rfl, by omega, fun i hi => by
              obtain rfl : i = 0 := by omega
              rw [Nat.zero_mul, Nat.add_zero]
              exact (Row.new' U 46 (objC (left.getD kk noO))).range⟩⟩
            obtain ⟨v5', Y5, hr5, ho5, hg5, hob5⟩ := run_append_objs _ Z _ out (hoU.later hb4) hone (by omega) (by have := hb4.size; omega)
            have hB5 : Below Z w Y5 := (hBU.trans (hb4.mono (by omega))).trans (below_grown (hoU.later hb4) (by have := hb4.size; omega) hg5)
            have hs4 : (U.alloc (.cells (objC (left.getD kk noO)).toArray 46)).heap.size = U.heap.size + 1 := by simp
            have hs5 := hg5.size
            have hasd := HO.out.aside (by omega) _ rfl
            have hlbe : Y5.heap[lb]? = U.heap[lb]? := (hg5.block lb (by omega) (fun e => hasd.2 e.symm)).trans (hb4.block lb (by omega))
            have hl5 : IsObjs Y5.heap.size Y5 (some ⟨lb, loff, none⟩) k cl left := by
              obtain ⟨h1, h2, h3, h4, _, h6⟩ := HO.out.hl.below HBu.out
              refine ⟨h1, h2, h3, h4, fun o ho => ((HI.out.2.2.2.2.1 o (HO.out.leftl o ho)).below hB5).mono (by omega), ?_⟩
              rcases h6 with h6 | ⟨b, off, e, hb, hc⟩
              · exact .inl h6
              · cases e
                exact .inr ⟨lb, loff, rfl, by omega, fun i hi j v hv => (cell_same hlbe _).trans (hc i hi j v hv)⟩
            have HRun5 := (show Hid (_ = _) from hr5)
            have HRx := (show Hid (World.rangeAt _ _ _ _) from hxr)
            obtain ⟨q6, c6, e6⟩ := ho5.slice
            subst e6
            have hkki : ¬ ((kk : Int) < 0) := by omega
            have hkkl : (kk : Int) < (k : Int) := by omega
            rw [show placeI (some kk) = (kk : Int) from rfl]
            have HL5 := (show Hid (IsObjs _ _ _ _ _ _) from hl5)
            have HO5 := (show Hid (OwnO _ _ _ _) from ho5)
            have HB5 := (show Hid (Below _ _ _) from hB5)
            have HAns := (show Hid (_ = _) from hans)
            have HFw : Hid ((left.eraseIdx kk).length + (out ++ [left.getD kk noO]).length = l.length) := by
              show _ = _
              rw [List.length_eraseIdx, if_pos hkl, List.length_append, List.length_singleton]; omega
            have HLl : Hid ((∀ o ∈ left.eraseIdx kk, o ∈ l) ∧ ∀ o ∈ out ++ [left.getD kk noO], o ∈ l) := ⟨fun o ho => HO.out.leftl o (List.mem_of_mem_eraseIdx ho), fun o ho => by
              rcases List.mem_append.1 ho with h | h
              · exact HO.out.outl o h
              · simp only [List.mem_singleton] at h; subst h; exact hxl⟩
            have hvb : (Value.slice q6 (out ++ [left.getD kk noO]).length c6).ownBlock ≠ some lb := by
              rcases hob5 with e | e
              · rw [e]; exact hasd.2
              · rw [e]; intro e2; have := Option.some.inj e2; omega
            have hz5 : Z ≤ Y5.heap.size := by omega
            have hv5 : ∀ g, (Value.slice q6 (out ++ [left.getD kk noO]).length c6).ownBlock = some g → g < Y5.heap.size := fun g e => (own_block ho5 e).2.1
            clear hr5 hxr hl5 ho5 hB5 hans hg5 hone hb4 hs4 hoU hBU hob5 hkf hkn hfi hor
            generalize hxg : left.getD kk noO = x at *
            generalize hon6 : (out ++ [x]).length = on6 at *
            generalize out.length = on5 at *
            go_wp2_with (first
              | ((with_reducible show wpList _ _ _ (Oper.mk (some 56) (Op.load 46 _) _ _ _ _ :: _) _ _); refine wpList_loadObj rfl (.tmp 55) rfl rfl hok HRx.out ?_; simp only [Act.put, List.setIfInBounds_toArray, List.set_cons_zero, List.set_cons_succ])
              | ((with_reducible show wpList _ _ _ (Oper.mk (some 57) (Op.buildSlice 22 1 _) _ _ _ _ :: _) _ _); refine wpList_buildOne rfl 22 46 (.tmp 56) rfl (objC x) rfl j0 _ Try.underlying22 hj0 hy0 (by rw [hy1, objC_length hok]) (by rw [objC_length hok]; omega) (by rw [objC_length hok]; omega) ?_; simp only [Act.put, List.setIfInBounds_toArray, List.set_cons_zero, List.set_cons_succ])
              | ((with_reducible show wpList _ _ _ (Oper.mk (some 58) (_) _ _ _ _ :: _) _ _); refine wpList_plain rfl (fun K hK => wp_append_of (.tmp 52) (.tmp 57) 22 rfl rfl rfl HRun5.out (hK _ _ ?_)); simp only [Act.put, List.setIfInBounds_toArray, List.set_cons_zero, List.set_cons_succ]))
            refine wp_region_held_drew (S := fun _ => True) (by kernel_rfl) trivial (fun hHeld => ?_)
            have hc1 : (kk : Int) ≤ (cl : Int) := by omega
            have hc2 : (kk : Int) + 1 ≤ (k : Int) := by omega
            have hc3 : (k : Int) ≤ (cl : Int) := by omega
            refine wpAnyH_takesAt 0 3 7 (of_decide_eq_true (by kernel_rfl)) rfl (fun _ _ _ d _ h => by cases d <;> exact h) (by kernel_rfl) (by kernel_rfl) hHeld ?_
            simp only [List.drop_zero, List.take_succ_cons, List.take_zero]
            iterate 3 (refine wpHeld_step (v := ?_) (by rfl) (fun wz hSw => ?_) ?_; rotate_left; (focus ((try dsimp only at hSw); go_simp; try with_reducible rfl)); (simp only [Act.put, List.setIfInBounds_toArray, List.set_cons_zero, List.set_cons_succ]))
            refine wpHeld_nil ?_
            refine wpAnyH_takesAt 3 1 6 (of_decide_eq_true (by kernel_rfl)) rfl (fun _ _ _ d _ h => by cases d <;> exact h) (by kernel_rfl) (by kernel_rfl) hHeld ?_
            simp only [List.drop_succ_cons, List.drop_zero, List.take_succ_cons, List.take_zero]
            iterate 1 (refine wpHeld_step (v := ?_) (by rfl) (fun wz hSw => ?_) ?_; rotate_left; (focus ((try dsimp only at hSw); go_simp; try with_reducible rfl)); ((simp only [Act.put]; (try simp only [List.setIfInBounds_toArray]); (try simp only [List.set_cons_succ]); (try simp only [List.set_cons_zero]))))
            refine wpHeld_nil ?_
            refine wpAnyH_takesAt 4 3 3 (of_decide_eq_true (by kernel_rfl)) rfl (fun _ _ _ d _ h => by cases d <;> exact h) (by kernel_rfl) (by kernel_rfl) hHeld ?_
            simp only [List.drop_succ_cons, List.drop_zero, List.take_succ_cons, List.take_zero]
            iterate 3 (refine wpHeld_step (v := ?_) (by rfl) (fun wz hSw => ?_) ?_; rotate_left; (focus ((try dsimp only at hSw); go_simp; try with_reducible rfl)); (simp only [Act.put, List.setIfInBounds_toArray, List.set_cons_zero, List.set_cons_succ]))
            refine wpHeld_nil ?_
            have hd : Below Y5.heap.size Y5 Y5.drew := (Below.refl _ _).drew
            obtain ⟨q8, c8, Y8, hr8, hI8, hB8, hA8⟩ := run_cut Y5.drew lb loff k cl kk left (HL5.out.later hd) hkk (by omega)
            have HRun8 := (show Hid (_ = _) from hr8)
            have HI8 := (show Hid (IsObjs _ _ _ _ _ _) from hI8)
            have HB8 : Hid (Below Y5.heap.size Y5 Y8) := hd.trans (hB8.mono (by have := hd.size; omega))
            have HA8 := (show Hid (0 < k - 1 → _) from hA8)
            clear hr8 hI8 hB8 hA8
            obtain ⟨q7, hq7⟩ : ∃ q7, tailP lb loff cl kk = q7 := ⟨_, rfl⟩
            rw [hq7] at HRun8
            refine wpAnyH_takesAt 7 1 2 (of_decide_eq_true (by kernel_rfl)) rfl (fun _ _ _ d _ h => by cases d <;> exact h) (by kernel_rfl) (by kernel_rfl) hHeld ?_
            simp only [List.drop_succ_cons, List.drop_zero, List.take_succ_cons, List.take_zero]
            refine wpHeld_step (v := .slice q7 (k - (kk + 1)) (cl - (kk + 1))) (by rfl) (fun wz hSw => ?_) ?_
            · have hwr : IntKind.i64.wrap ((kk : Int) + 1) = (kk : Int) + 1 := IntWalk.i64_in _ (by omega)
              rw [← hq7]
              unfold tailP
              by_cases hcr : cl = kk + 1
              · go_simp
                intro h; omega
              · go_simp
                intro h; omega
            (simp only [Act.put]; (try simp only [List.setIfInBounds_toArray]); (try simp only [List.set_cons_succ]); (try simp only [List.set_cons_zero]))
            refine wpHeld_nil ?_
            refine wpAnyH_only (i := 8) (by kernel_rfl) rfl (fun K hK => ?_)
            rw [if_pos (by rfl)]
            refine wp_append_of (.tmp 62) (.tmp 66) 22 rfl rfl rfl HRun8.out ?_
            refine hK.out _ _ trivial ?_
            clear hK K
            change wpAnyH _ _ _ _ _ _ _ (Act.put _ (some 67) _) _
            (simp only [Act.put]; (try simp only [List.setIfInBounds_toArray]); (try simp only [List.set_cons_succ]); (try simp only [List.set_cons_zero]))
            refine wpAnyH_only (i := 9) (by kernel_rfl) rfl (fun K hK => ?_)
            rw [if_pos (by rfl)]
            go_simp
            refine hK.out _ _ trivial ?_
            clear hK K
            refine wpAnyH_done (by kernel_rfl) ?_ _
            go_wp2
            go_roundw
            case rel =>
              have hl8 : (left.eraseIdx kk).length = left.length - 1 := by rw [List.length_eraseIdx, if_pos hkl]
              refine ⟨left.eraseIdx kk, out ++ [x], q8, k - 1, c8, rfl, HI8.out, HO5.out.later HB8.out, Nat.le_trans hz5 HB8.out.size, HB5.out.trans (HB8.out.mono hz5), fun hp a ha => ?_, HLl.out.1, HLl.out.2, by rw [hon6]; exact HFw.out, by rw [hl8]; exact HAns.out⟩
              obtain ⟨ha1, ha2⟩ := HA8.out hp a ha
              refine ⟨ha1, fun e => ?_⟩
              rcases ha2 with h | h
              · exact hvb (by rw [e, h])
              · have := hv5 _ e; have := hd.size; omega
            case measure => simp [lenV]; omega
end Go.Proofs.Ytfclbdlkpnoceaa
