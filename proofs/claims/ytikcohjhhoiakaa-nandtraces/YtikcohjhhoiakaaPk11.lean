/- Texts put together. -/
import Derived.Test.YtikcohjhhoiakaaPk04
set_option maxHeartbeats 8000000
namespace Go.Proofs.Ytikcohjhhoiakaa.fa
open Go.RowKit
set_option maxRecDepth 20000
theorem up_le (n : Nat) {c d : Nat → Bool} {k : Nat} (hn : k < 8 * n) (hk : c k = false) (hd : d k = true) (h : ∀ i, i ≠ k → d i = c i) : gb (ofb n c) (k / 8) + ((2 ^ (k % 8) : Nat) : Int) ≤ 255 := by
 have w1 := wt_up hk hd h (k / 8)
 have w2 := wt_lt d (k / 8)
 rw [if_pos rfl] at w1
 rw [ofb_gb n c _ (by omega)]
 generalize 2 ^ (k % 8) = q at *
 omega
end Go.Proofs.Ytikcohjhhoiakaa.fa
