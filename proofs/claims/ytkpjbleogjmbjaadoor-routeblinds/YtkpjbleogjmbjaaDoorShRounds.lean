/-
  The rounds of SHA-256 on plain numbers, and the table of their words.
-/
import Derived.Test.YtkpjbleogjmbjaaDoorMade
import Derived.Test.YtkpjbleogjmbjaaDoorShSpec
namespace Go.Proofs.YtkpjbleogjmbjaaDoor.Sh
open Go Go.RowKit

/-- The words of the rounds. -/
def kW : List Nat := [1116352408, 1899447441, 3049323471, 3921009573, 961987163, 1508970993, 2453635748, 2870763221, 3624381080, 310598401, 607225278, 1426881987, 1925078388, 2162078206, 2614888103, 3248222580, 3835390401, 4022224774, 264347078, 604807628, 770255983, 1249150122, 1555081692, 1996064986, 2554220882, 2821834349, 2952996808, 3210313671, 3336571891, 3584528711, 113926993, 338241895, 666307205, 773529912, 1294757372, 1396182291, 1695183700, 1986661051, 2177026350, 2456956037, 2730485921, 2820302411, 3259730800, 3345764771, 3516065817, 3600352804, 4094571909, 275423344, 430227734, 506948616, 659060556, 883997877, 958139571, 1322822218, 1537002063, 1747873779, 1955562222, 2024104815, 2227730452, 2361852424, 2428436474, 2756734187, 3204031479, 3329325298]
theorem kW_length : kW.length = 64 := rfl
theorem kW_lt : ∀ z ∈ kW, z < 4294967296 := by decide

/-- The program's table holds them. -/
def Tab (w : World) : Prop := ∀ i, i < 64 → w.cell? ⟨0, i, none⟩ = some (.int .u32 (kW.getD i 0 : Nat))
theorem Tab.below {n : Nat} {w w' : World} (h : Tab w) (hb : Below n w w') (hn : 0 < n) : Tab w' := fun i hi => (hb.cell (p := ⟨0, i, none⟩) hn).trans (h i hi)
theorem Tab.pos {w : World} (h : Tab w) : 0 < w.heap.size := by have := World.block_lt_of_cell? w _ (h 0 (by omega)); exact this
theorem Tab.later {w w' : World} (h : Tab w) (hb : Below w.heap.size w w') : Tab w' := h.below hb h.pos

/-- Eight words. -/
structure St where
  a : Nat
  b : Nat
  c : Nat
  d : Nat
  e : Nat
  f : Nat
  g : Nat
  h : Nat

def St.list (s : St) : List Nat := [s.a, s.b, s.c, s.d, s.e, s.f, s.g, s.h]
theorem St.cells (r : St) : u32s r.list = [.int .u32 (r.a : Nat), .int .u32 (r.b : Nat), .int .u32 (r.c : Nat), .int .u32 (r.d : Nat), .int .u32 (r.e : Nat), .int .u32 (r.f : Nat), .int .u32 (r.g : Nat), .int .u32 (r.h : Nat)] := rfl
def St.ok (s : St) : Prop := s.a < 4294967296 ∧ s.b < 4294967296 ∧ s.c < 4294967296 ∧ s.d < 4294967296 ∧ s.e < 4294967296 ∧ s.f < 4294967296 ∧ s.g < 4294967296 ∧ s.h < 4294967296

def chN (e f g : Nat) : Nat := (e &&& f) ^^^ ((4294967295 ^^^ e) &&& g)
def majN (a b c : Nat) : Nat := (a &&& b) ^^^ (a &&& c) ^^^ (b &&& c)
def big1 (e : Nat) : Nat := ror e 6 ^^^ ror e 11 ^^^ ror e 25
def big0 (a : Nat) : Nat := ror a 2 ^^^ ror a 13 ^^^ ror a 22
def tN (k w e f g h : Nat) : Nat := (h + k + w + chN e f g + big1 e) % 4294967296
def aN (t a b c : Nat) : Nat := (t + majN a b c + big0 a) % 4294967296
def roundN (k w : Nat) (s : St) : St := ⟨aN (tN k w s.e s.f s.g s.h) s.a s.b s.c, s.a, s.b, s.c, (s.d + tN k w s.e s.f s.g s.h) % 4294967296, s.e, s.f, s.g⟩
def roundsN (ws : List Nat) : Nat → St → St
  | 0, s => s
  | i + 1, s => roundN (kW.getD i 0) (ws.getD i 0) (roundsN ws i s)

theorem roundN_ok {k w : Nat} {s : St} (h : s.ok) : (roundN k w s).ok :=
  ⟨Nat.mod_lt _ (by decide), h.1, h.2.1, h.2.2.1, Nat.mod_lt _ (by decide), h.2.2.2.2.1, h.2.2.2.2.2.1, h.2.2.2.2.2.2.1⟩
theorem roundsN_ok {ws : List Nat} {s : St} (h : s.ok) : ∀ i, (roundsN ws i s).ok
  | 0 => h
  | i + 1 => roundN_ok (roundsN_ok h i)

theorem ch_eq {e f g : Nat} (he : e < 4294967296) (hf : f < 4294967296) (hg : g < 4294967296) : bits .xor .u32 (bits .and .u32 (e : Int) f) (bits .and .u32 (bits .xor .u32 IntKind.u32.max (e : Int)) g) = ((chN e f g : Nat) : Int) := by
  rw [show IntKind.u32.max = ((4294967295 : Nat) : Int) from rfl, u32_xor_nat _ _ (by decide) he, u32_and_nat _ _ he hf, u32_and_nat _ _ (xor_lt (by decide) he) hg, u32_xor_nat _ _ (and_lt he) (and_lt (xor_lt (by decide) he))]
  rfl
theorem maj_eq {a b c : Nat} (ha : a < 4294967296) (hb : b < 4294967296) (hc : c < 4294967296) : bits .xor .u32 (bits .xor .u32 (bits .and .u32 (a : Int) b) (bits .and .u32 (a : Int) c)) (bits .and .u32 (b : Int) c) = ((majN a b c : Nat) : Int) := by
  rw [u32_and_nat _ _ ha hb, u32_and_nat _ _ ha hc, u32_and_nat _ _ hb hc, u32_xor_nat _ _ (and_lt ha) (and_lt ha), u32_xor_nat _ _ (xor_lt (and_lt ha) (and_lt ha)) (and_lt hb)]
  rfl
theorem big1_eq {e : Nat} (he : e < 4294967296) : bits .xor .u32 (bits .xor .u32 ((ror e 6 : Nat) : Int) ((ror e 11 : Nat) : Int)) ((ror e 25 : Nat) : Int) = ((big1 e : Nat) : Int) := by
  rw [u32_xor_nat _ _ (ror_lt he) (ror_lt he), u32_xor_nat _ _ (xor_lt (ror_lt he) (ror_lt he)) (ror_lt he)]
  rfl
theorem big0_eq {e : Nat} (he : e < 4294967296) : bits .xor .u32 (bits .xor .u32 ((ror e 2 : Nat) : Int) ((ror e 13 : Nat) : Int)) ((ror e 22 : Nat) : Int) = ((big0 e : Nat) : Int) := by
  rw [u32_xor_nat _ _ (ror_lt he) (ror_lt he), u32_xor_nat _ _ (xor_lt (ror_lt he) (ror_lt he)) (ror_lt he)]
  rfl

theorem ror_int (X : Nat) (n : Int) (w : World) (h1 : X < 4294967296) (hn0 : 0 < n) (hn : n < 32) :
    Calls Tryd.prog 55 #[.int .u32 X, .int .i64 n] w fun e w' => e = .returned (.int .u32 (ror X n.toNat : Nat)) ∧ w' = w := by
  obtain ⟨m, rfl⟩ := Int.eq_ofNat_of_zero_le (show 0 ≤ n by omega)
  exact ror_any X m w h1 (by omega) (by omega)
theorem refRor_int (X : Nat) (n : Int) (w : World) (h1 : X < 4294967296) (hn0 : n < 0) (hn : -32 < n) :
    Calls Tryd.prog 48 #[.int .u32 X, .int .i64 n] w fun e w' => e = .returned (.int .u32 (ror X (-n).toNat : Nat)) ∧ w' = w := by
  obtain ⟨m, hm⟩ := Int.eq_ofNat_of_zero_le (show 0 ≤ -n by omega)
  obtain rfl : n = -(m : Int) := by omega
  have := refRor_any X m w h1 (by omega) (by omega)
  rw [show (- -(m : Int)).toNat = m by omega]
  exact this

end Go.Proofs.YtkpjbleogjmbjaaDoor.Sh
