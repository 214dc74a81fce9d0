/-
  The law SuiteBack, walked: for every two keys and every three texts it returns true.
-/
import Derived.Test.YtclelancbfoenaaGreatDoorSRealAll
import Derived.Test.YtclelancbfoenaaGreatDoorTapeAll
import Derived.Test.YtclelancbfoenaaGreatDoorTabs
namespace Go.Proofs.YtclelancbfoenaaGreatDoor
open Go.RowKit Go.Shelf

abbrev refCells : Array Value := #[.int .i64 0, .slice none 0 0, .slice none 0 0, .slice none 0 0, .slice none 0 0, .bool false]

set_option maxRecDepth 100000 in
set_option maxHeartbeats 4000000 in
theorem suiteBack_some (k : List Nat) (pa : Option Addr) (la ca : Nat) (za : List Nat) (pp : Option Addr) (lp cp : Nat) (zp : List Nat) (k2 : List Nat) (pw : Option Addr) (lw cw : Nat) (zw : List Nat) (w : World) (hTabs : Sh.Tab w ∧ Re.Tab w)
    (hk : IsKey32 k) (hIa : IsBytes w.heap.size w pa la ca za) (hIp : IsBytes w.heap.size w pp lp cp zp) (hk2 : IsKey32 k2) (hIw : IsBytes w.heap.size w pw lw cw zw) (hla : la ≤ 100) (hlp : lp ≤ 300) (hlw : lw ≤ 100) :
    Calls Tryz.prog 3 #[.agg (u8s k).toArray, .slice pa la ca, .slice pp lp cp, .agg (u8s k2).toArray, .slice pw lw cw] w fun e w' => e = .returned (.bool true) ∧ Below w.heap.size w w' := by
  have h1 : ¬ (100 : Int) < (la : Int) := by omega
  have h2 : ¬ (300 : Int) < (lp : Int) := by omega
  have h3 : ¬ (100 : Int) < (lw : Int) := by omega
  have hpl := hIp.1
  have hbk := bucketN_300 hlp
  obtain ⟨zc, hzc⟩ : ∃ zc, sealN k za zp = zc := ⟨_, rfl⟩
  have hcl : zc.length = sizeN (lp : Int) := by
    rw [← hzc, sealN_length (by omega), hpl]
    unfold sizeN
    rw [if_neg (by omega)]
  have hczz : ∀ z ∈ zc, z < 256 := by rw [← hzc]; exact sealN_lt hIp.2.2.2.1
  have h76 : 76 ≤ zc.length ∧ zc.length ≤ 2000 := by
    rw [← hzc, sealN_length (by omega), hpl]
    omega
  obtain ⟨w0, hw0⟩ : ∃ w0, (w.alloc (.cells (u8s k).toArray 23)).alloc (.cells (u8s k2).toArray 23) = w0 := ⟨_, rfl⟩
  have HW0 : Hid ((w.alloc (.cells (u8s k).toArray 23)).alloc (.cells (u8s k2).toArray 23) = w0) := hw0
  have hb0 : Below w.heap.size w w0 := by rw [← hw0]; exact ((Below.refl _ w).alloc (Nat.le_refl _) _).alloc (by simp) _
  have hs0 : w0.heap.size = w.heap.size + 2 := by rw [← hw0]; simp
  have HKa : Hid (∀ W, Below w0.heap.size w0 W → Row W w.heap.size 23 (u8s k)) := fun W hW => Row.below (by rw [← hw0]; exact (Row.new' w 23 (u8s k)).alloc _) hW (by omega)
  have HKb : Hid (∀ W, Below w0.heap.size w0 W → Row W (w.heap.size + 1) 23 (u8s k2)) := fun W hW => Row.below (by rw [← hw0]; exact Row.newAt (w.alloc (.cells (u8s k).toArray 23)) 23 (u8s k2).toArray (by simp)) hW (by omega)
  have HKl : Hid ((u8s k).length = 32) := by show _ = _; rw [u8s_length]; exact hk.1
  have HKl2 : Hid ((u8s k2).length = 32) := by show _ = _; rw [u8s_length]; exact hk2.1
  have up : ∀ {W}, Below w0.heap.size w0 W → Below w.heap.size w W := fun hW => hb0.trans (hW.mono hb0.size)
  have HSe : Hid (∀ W S g, Below w0.heap.size w0 W → SuiteAt W S 0 none none g → Calls Tryz.prog 6 #[.pointer (some ⟨S, 0, none⟩), .agg (u8s k).toArray, .slice pa la ca, .slice pp lp cp] W fun e w' => ∃ b c, e = .returned (.tuple #[.slice (some ⟨b, 0, none⟩) zc.length c, .int .i64 0]) ∧ IsBytes w'.heap.size w' (some ⟨b, 0, none⟩) zc.length c zc ∧ Below W.heap.size W w') := fun W S g hW hs => by
    refine (seal_real S none none g k hk pa la ca za (by omega) pp lp cp zp (by omega) (by omega) W (hTabs.1.later (up hW)) (hTabs.2.later (up hW)) hs (hIa.later (up hW)) (hIp.later (up hW))).mono ?_
    rintro e w' ⟨v, rfl, hO, hb⟩
    rw [hzc] at hO
    obtain ⟨q, c, rfl⟩ := hO.slice
    obtain ⟨b, rfl, _⟩ := hO.cells (by omega)
    exact ⟨b, c, rfl, hO.bytes hczz, hb⟩
  have HOp : Hid (∀ W S g b c, Below w0.heap.size w0 W → SuiteAt W S 0 none none g → IsBytes W.heap.size W (some ⟨b, 0, none⟩) zc.length c zc → Calls Tryz.prog 7 #[.pointer (some ⟨S, 0, none⟩), .agg (u8s k).toArray, .slice pa la ca, .slice (some ⟨b, 0, none⟩) zc.length c] W fun e w' => ∃ v, e = .returned (.tuple #[v, .int .i64 0]) ∧ Str w' v (strOf zp) ∧ Below W.heap.size W w') := fun W S g b c hW hs hI => by
    refine (open_real S none none g k hk pa la ca za (by omega) zp (by omega) hIp.2.2.2.1 (by rw [hpl]; omega) b 0 zc.length c W (hTabs.1.later (up hW)) (hTabs.2.later (up hW)) hs (hIa.later (up hW)) (by rw [hzc]; exact hI)).mono ?_
    rintro e w' ⟨v, rfl, hO, hb⟩
    exact ⟨v, rfl, own_str hO, hb⟩
  have HBo : Hid (∀ S g X, ∃ (T : List Nat) (G : Int), (∀ (W : World) (b cap : Nat), Below w0.heap.size w0 W → SuiteAt W S 0 none none g → IsBytes W.heap.size W (some ⟨b, 0, none⟩) zc.length cap zc → Calls Tryz.prog 7 #[.pointer (some ⟨S, 0, none⟩), .agg (u8s k2).toArray, .slice pw lw cw, .slice (some ⟨b, 0, none⟩) zc.length cap] W fun e w' => ∃ v, e = .returned (.tuple #[v, .int .i64 G]) ∧ Str w' v (strOf T) ∧ Below W.heap.size W w') ∧
      (∀ (W : World) (b cap : Nat), Below w0.heap.size w0 W → Row W X 34 refCells.toList → IsBytes W.heap.size W (some ⟨b, 0, none⟩) zc.length cap zc → Calls Tryz.prog 8 #[.pointer (some ⟨X, 0, none⟩), .agg (u8s k2).toArray, .slice pw lw cw, .slice (some ⟨b, 0, none⟩) zc.length cap] W fun e w' => ∃ v, e = .returned (.tuple #[v, .int .i64 G]) ∧ Str w' v (strOf T) ∧ Below W.heap.size W w')) := fun S g X => by
    obtain ⟨T, G, hA, hB⟩ := other_both S none none g X [.slice none 0 0, .slice none 0 0, .slice none 0 0, .slice none 0 0, .bool false] k2 hk2 pw lw cw zw (by omega) zc hczz h76.1 (by omega)
    exact ⟨T, G, fun W b cap hW hs hI => hA W b 0 cap (hTabs.1.later (up hW)) (hTabs.2.later (up hW)) hs (hIw.later (up hW)) hI, fun W b cap hW hX hI => hB W b 0 cap hX (hIw.later (up hW)) hI⟩
  have HSz : Hid (∀ W S g, SuiteAt W S 0 none none g → Calls Tryz.prog 9 #[.pointer (some ⟨S, 0, none⟩), .int .i64 (lp : Nat)] W fun e w' => e = .returned (.int .i64 (zc.length : Nat)) ∧ Below W.heap.size W w') := fun W S g hs => by
    have h := size_some S 0 none none g (lp : Nat) (by omega) W hs
    rw [← hcl] at h
    exact h
  have Sp : Hid (∀ W, Below w0.heap.size w0 W → Str W (.slice pp lp cp) (strOf zp)) := fun W hW => str_of_bytes (hIp.later (up hW))
  have hzl : zc.length ≤ 2000 := h76.2
  have hUp : Hid (∀ W, Below w0.heap.size w0 W → Below w.heap.size w W) := fun W hW => up hW
  clear hw0 hIa hIp hIw hzc hcl hczz h76 hbk up
  generalize zc.length = L at *
  go_enter Tryz.func3, Tryz.ntmps3
  go_wp2_with (first
    | (go_at_call 4; rw [HW0.out]; refine (awake_any w0).mono ?_; rintro e w1 ⟨rfl, hB1⟩)
    | (go_at_call 5; refine (newReal_any none w1).mono ?_; rintro e w2 ⟨S, g, rfl, hS2, hs2, hb2⟩; have HS2 : Hid (SuiteAt w2 S 0 none none g) := hs2; have hB2 : Below w0.heap.size w0 w2 := hB1.trans (hb2.mono hB1.size); clear hb2 hB1 hs2)
    | ((with_reducible show wpList _ _ _ (Oper.mk (some 39) (Op.load 23 (.tmp 5)) _ _ _ _ :: _) _ _); refine wpList_load_Row rfl 23 (.tmp 5) rfl rfl (HKa.out w2 hB2) Tryz.underlying23 (by rw [HKl.out]; exact size23) ?_; simp only [Act.put, List.setIfInBounds_toArray, List.set_cons_zero, List.set_cons_succ])
    | (go_at_call 6; refine (HSe.out w2 S g hB2 HS2.out).mono ?_; rintro e w3 ⟨b, c, rfl, hC3, hb3⟩; have HC3 : Hid (IsBytes w3.heap.size w3 (some ⟨b, 0, none⟩) L c zc) := hC3; have HS3 : Hid (SuiteAt w3 S 0 none none g) := HS2.out.later hb3; have hB3 : Below w0.heap.size w0 w3 := hB2.trans (hb3.mono hB2.size); clear hC3 hb3 hB2 HS2 HSe)
    | ((with_reducible show wpList _ _ _ (Oper.mk (some 47) (Op.load 23 (.tmp 5)) _ _ _ _ :: _) _ _); refine wpList_load_Row rfl 23 (.tmp 5) rfl rfl (HKa.out w3 hB3) Tryz.underlying23 (by rw [HKl.out]; exact size23) ?_; simp only [Act.put, List.setIfInBounds_toArray, List.set_cons_zero, List.set_cons_succ])
    | (go_at_call 7; refine (HOp.out w3 S g b c hB3 HS3.out HC3.out).mono ?_; rintro e w4 ⟨v4, rfl, hV4, hb4⟩; have HV4 : Hid (Str w4 v4 (strOf zp)) := hV4; have hB4 : Below w0.heap.size w0 w4 := hB3.trans (hb4.mono hB3.size); have hB5 : Below w0.heap.size w0 (w4.alloc (.cells refCells 34)) := hB4.alloc hB4.size _; have HX5 : Hid (Row (w4.alloc (.cells refCells 34)) w4.heap.size 34 refCells.toList) := Row.new w4 34 refCells; have hb45 : Below w4.heap.size w4 (w4.alloc (.cells refCells 34)) := (Below.refl _ w4).alloc (Nat.le_refl _) _; have HS5 : Hid (SuiteAt (w4.alloc (.cells refCells 34)) S 0 none none g) := (HS3.out.later hb4).later hb45; have HC5 : Hid (IsBytes (w4.alloc (.cells refCells 34)).heap.size (w4.alloc (.cells refCells 34)) (some ⟨b, 0, none⟩) L c zc) := (HC3.out.later hb4).later hb45; have HV5 : Hid (Str (w4.alloc (.cells refCells 34)) v4 (strOf zp)) := HV4.out.later hb45; obtain ⟨T, G, hA7, hA8⟩ := HBo.out S g w4.heap.size; clear hV4 hb4 hB3 hB4 HS3 HC3 HV4 hb45 HOp HBo)
    | ((with_reducible show wpList _ _ _ (Oper.mk (some 57) (Op.load 23 (.tmp 8)) _ _ _ _ :: _) _ _); refine wpList_load_Row rfl 23 (.tmp 8) rfl rfl (HKb.out _ hB5) Tryz.underlying23 (by rw [HKl2.out]; exact size23) ?_; simp only [Act.put, List.setIfInBounds_toArray, List.set_cons_zero, List.set_cons_succ])
    | (go_at_call 7; refine (hA7 _ b c hB5 HS5.out HC5.out).mono ?_; rintro e w6 ⟨v6, rfl, hV6, hb6⟩; have HV6 : Hid (Str w6 v6 (strOf T)) := hV6; have hB6 : Below w0.heap.size w0 w6 := hB5.trans (hb6.mono hB5.size); have HX6 : Hid (Row w6 w4.heap.size 34 refCells.toList) := Row.later HX5.out hb6; have HS6 : Hid (SuiteAt w6 S 0 none none g) := HS5.out.later hb6; have HC6 : Hid (IsBytes w6.heap.size w6 (some ⟨b, 0, none⟩) L c zc) := HC5.out.later hb6; have HV46 : Hid (Str w6 v4 (strOf zp)) := HV5.out.later hb6; clear hV6 hb6 hB5 HX5 HS5 HC5 HV5 hA7)
    | ((with_reducible show wpList _ _ _ (Oper.mk (some 65) (Op.load 23 (.tmp 8)) _ _ _ _ :: _) _ _); refine wpList_load_Row rfl 23 (.tmp 8) rfl rfl (HKb.out w6 hB6) Tryz.underlying23 (by rw [HKl2.out]; exact size23) ?_; simp only [Act.put, List.setIfInBounds_toArray, List.set_cons_zero, List.set_cons_succ])
    | (go_at_call 8; refine (hA8 w6 b c hB6 HX6.out HC6.out).mono ?_; rintro e w7 ⟨v7, rfl, hV7, hb7⟩; have HV7 : Hid (Str w7 v7 (strOf T)) := hV7; have HV67 : Hid (Str w7 v6 (strOf T)) := HV6.out.later hb7; have hB7 : Below w0.heap.size w0 w7 := hB6.trans (hb7.mono hB6.size); have HS7 : Hid (SuiteAt w7 S 0 none none g) := HS6.out.later hb7; have c4 := (HV46.out.later hb7).here; have cp7 := (Sp.out w7 hB7).here; clear hV7 hb7 hB6 HX6 HS6 HC6 HV46 HV6 hA8)
    | (go_at_call 9; refine (HSz.out w7 S g HS7.out).mono ?_; rintro e w8 ⟨rfl, hb8⟩; have hB8 : Below w0.heap.size w0 w8 := hB7.trans (hb8.mono hB7.size); have c6 := (HV67.out.later hb8).here; have c7 := (HV7.out.later hb8).here; clear hb8 hB7 c4 cp7))
  go_ret
  exact ⟨by simp, hUp.out w8 hB8⟩

set_option maxHeartbeats 1000000 in
/-- SuiteBack -/
theorem suiteBack_walk (k : List Nat) (pa : Option Addr) (la ca : Nat) (za : List Nat) (pp : Option Addr) (lp cp : Nat) (zp : List Nat) (k2 : List Nat) (pw : Option Addr) (lw cw : Nat) (zw : List Nat) (w : World) (hTabs : Sh.Tab w ∧ Re.Tab w)
    (hk : IsKey32 k) (hIa : IsBytes w.heap.size w pa la ca za) (hIp : IsBytes w.heap.size w pp lp cp zp) (hk2 : IsKey32 k2) (hIw : IsBytes w.heap.size w pw lw cw zw) :
    Calls Tryz.prog 3 #[.agg (u8s k).toArray, .slice pa la ca, .slice pp lp cp, .agg (u8s k2).toArray, .slice pw lw cw] w fun e w' => e = .returned (.bool true) ∧ Below w.heap.size w w' := by
  by_cases hla : la ≤ 100
  · by_cases hlp : lp ≤ 300
    · by_cases hlw : lw ≤ 100
      · exact suiteBack_some k pa la ca za pp lp cp zp k2 pw lw cw zw w hTabs hk hIa hIp hk2 hIw hla hlp hlw
      · have h1 : ¬ (100 : Int) < (la : Int) := by omega
        have h2 : ¬ (300 : Int) < (lp : Int) := by omega
        have h3 : (100 : Int) < (lw : Int) := by omega
        clear hIa hIp hIw hTabs
        go_enter Tryz.func3, Tryz.ntmps3
        go_wp2_with (go_at_call 4; refine (awake_any _).mono ?_; rintro e w1 ⟨rfl, hB1⟩)
        go_ret
        exact ⟨rfl, (((Below.refl _ w).alloc (Nat.le_refl _) _).alloc (by simp) _).trans (hB1.mono (by simp; omega))⟩
    · have h1 : ¬ (100 : Int) < (la : Int) := by omega
      have h2 : (300 : Int) < (lp : Int) := by omega
      clear hIa hIp hIw hTabs
      go_enter Tryz.func3, Tryz.ntmps3
      go_wp2_with (go_at_call 4; refine (awake_any _).mono ?_; rintro e w1 ⟨rfl, hB1⟩)
      go_ret
      exact ⟨rfl, (((Below.refl _ w).alloc (Nat.le_refl _) _).alloc (by simp) _).trans (hB1.mono (by simp; omega))⟩
  · have h1 : (100 : Int) < (la : Int) := by omega
    clear hIa hIp hIw hTabs
    go_enter Tryz.func3, Tryz.ntmps3
    go_wp2_with (go_at_call 4; refine (awake_any _).mono ?_; rintro e w1 ⟨rfl, hB1⟩)
    go_ret
    exact ⟨rfl, (((Below.refl _ w).alloc (Nat.le_refl _) _).alloc (by simp) _).trans (hB1.mono (by simp; omega))⟩
end Go.Proofs.YtclelancbfoenaaGreatDoor
