/-
  chacha.Stream on lists: the bytes, turned by the blocks of a key, a counter and a nonce.
-/
import Derived.Test.YtclelancbfoenaaGreatDoorReStream
import Derived.Test.YtclelancbfoenaaGreatDoorBaseAll
import Derived.Laws.BitsAllLaws
namespace Go.Proofs.YtclelancbfoenaaGreatDoor.Re
open Go.RowKit

theorem streamN_at (key : List Nat) (c : Nat) (nonce b : List Nat) {j : Nat} (h : j < b.length) : (streamN key c nonce b).getD j 0 = b.getD j 0 ^^^ (blockN key ((c + j / 64) % 4294967296) nonce).getD (j % 64) 0 := by
  unfold streamN
  rw [List.getD_eq_getElem?_getD, turnN_at _ _ h, Option.getD_some]

theorem stream_any (key : List Nat) (c : Nat) (nonce : List Nat) (hk : key.length = 32 ∧ ∀ z ∈ key, z < 256) (hc : c < 4294967296) (hn : nonce.length = 12 ∧ ∀ z ∈ nonce, z < 256) (p : Option Addr) (len cap : Nat) (zs : List Nat) (hlen : len ≤ 50000) (w : World) (hT : Tab w) (hI : IsBytes w.heap.size w p len cap zs) :
    Calls Tryz.prog 33 #[.agg (u8s key).toArray, .int .u32 c, .agg (u8s nonce).toArray, .slice p len cap] w fun e w' => ∃ g, e = .returned (.slice (some ⟨g, 0, none⟩) len len) ∧ w.heap.size ≤ g ∧ Row w' g 5 (u8s (streamN key c nonce zs)) ∧ Below w.heap.size w w' :=
  callsIn_wide.1 (stream_in 12 (by omega) c (u8s key) (u8s nonce) (fun k => blockN key ((c + k) % 4294967296) nonce) ((u8s_length _).trans hk.1) ((u8s_length _).trans hn.1) (fun k => blockN_length _ _ _) hc
    (fun k w hT => block_any key _ nonce hk.1 hk.2 (Nat.mod_lt _ (by decide)) hn.1 hn.2 w hT) p len cap zs (streamN key c nonce zs)
    (fun k i hi hl => by
      rw [u8_xor_nat _ _ (getD_of_all hI.2.2.2.1 _) (getD_of_all (blockN_lt _ _ _) _), streamN_at key c nonce zs (by rw [hI.1]; exact hl), show (64 * k + i) / 64 = k by omega, show (64 * k + i) % 64 = i by omega])
    (by rw [streamN_length, hI.1]) hlen w hT hI)
end Go.Proofs.YtclelancbfoenaaGreatDoor.Re
