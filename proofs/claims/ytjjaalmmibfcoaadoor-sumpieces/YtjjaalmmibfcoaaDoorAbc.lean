/- The sum of the three bytes abc, reckoned step by step: each step is checked by the kernel. -/
import Derived.Test.YtjjaalmmibfcoaaDoorOf
namespace Go.Proofs.YtjjaalmmibfcoaaDoor
namespace Sha
def abcPlan : List (BitVec 32) := [0x61626380#32, 0x00000000#32, 0x00000000#32, 0x00000000#32, 0x00000000#32, 0x00000000#32, 0x00000000#32, 0x00000000#32, 0x00000000#32, 0x00000000#32, 0x00000000#32, 0x00000000#32, 0x00000000#32, 0x00000000#32, 0x00000000#32, 0x00000018#32, 0x61626380#32, 0x000f0000#32, 0x7da86405#32, 0x600003c6#32, 0x3e9d7b78#32, 0x0183fc00#32, 0x12dcbfdb#32, 0xe2e2c38e#32, 0xc8215c1a#32, 0xb73679a2#32, 0xe5bc3909#32, 0x32663c5b#32, 0x9d209d67#32, 0xec8726cb#32, 0x702138a4#32, 0xd3b7973b#32, 0x93f5997f#32, 0x3b68ba73#32, 0xaff4ffc1#32, 0xf10a5c62#32, 0x0a8b3996#32, 0x72af830a#32, 0x9409e33e#32, 0x24641522#32, 0x9f47bf94#32, 0xf0a64f5a#32, 0x3e246a79#32, 0x27333ba3#32, 0x0c4763f2#32, 0x840abf27#32, 0x7a290d5d#32, 0x065c43da#32, 0xfb3e89cb#32, 0xcc7617db#32, 0xb9e66c34#32, 0xa9993667#32, 0x84badedd#32, 0xc21462bc#32, 0x1487472c#32, 0xb20f7a99#32, 0xef57b9cd#32, 0xebe6b238#32, 0x9fe3095e#32, 0x78bc8d4b#32, 0xa43fcf15#32, 0x668b2ff8#32, 0xeeaba2cc#32, 0x12b1edeb#32]
def abcStates : List (List (BitVec 32)) := [
  [0x6a09e667#32, 0xbb67ae85#32, 0x3c6ef372#32, 0xa54ff53a#32, 0x510e527f#32, 0x9b05688c#32, 0x1f83d9ab#32, 0x5be0cd19#32],
  [0x5d6aebcd#32, 0x6a09e667#32, 0xbb67ae85#32, 0x3c6ef372#32, 0xfa2a4622#32, 0x510e527f#32, 0x9b05688c#32, 0x1f83d9ab#32],
  [0x5a6ad9ad#32, 0x5d6aebcd#32, 0x6a09e667#32, 0xbb67ae85#32, 0x78ce7989#32, 0xfa2a4622#32, 0x510e527f#32, 0x9b05688c#32],
  [0xc8c347a7#32, 0x5a6ad9ad#32, 0x5d6aebcd#32, 0x6a09e667#32, 0xf92939eb#32, 0x78ce7989#32, 0xfa2a4622#32, 0x510e527f#32],
  [0xd550f666#32, 0xc8c347a7#32, 0x5a6ad9ad#32, 0x5d6aebcd#32, 0x24e00850#32, 0xf92939eb#32, 0x78ce7989#32, 0xfa2a4622#32],
  [0x04409a6a#32, 0xd550f666#32, 0xc8c347a7#32, 0x5a6ad9ad#32, 0x43ada245#32, 0x24e00850#32, 0xf92939eb#32, 0x78ce7989#32],
  [0x2b4209f5#32, 0x04409a6a#32, 0xd550f666#32, 0xc8c347a7#32, 0x714260ad#32, 0x43ada245#32, 0x24e00850#32, 0xf92939eb#32],
  [0xe5030380#32, 0x2b4209f5#32, 0x04409a6a#32, 0xd550f666#32, 0x9b27a401#32, 0x714260ad#32, 0x43ada245#32, 0x24e00850#32],
  [0x85a07b5f#32, 0xe5030380#32, 0x2b4209f5#32, 0x04409a6a#32, 0x0c657a79#32, 0x9b27a401#32, 0x714260ad#32, 0x43ada245#32],
  [0x8e04ecb9#32, 0x85a07b5f#32, 0xe5030380#32, 0x2b4209f5#32, 0x32ca2d8c#32, 0x0c657a79#32, 0x9b27a401#32, 0x714260ad#32],
  [0x8c87346b#32, 0x8e04ecb9#32, 0x85a07b5f#32, 0xe5030380#32, 0x1cc92596#32, 0x32ca2d8c#32, 0x0c657a79#32, 0x9b27a401#32],
  [0x4798a3f4#32, 0x8c87346b#32, 0x8e04ecb9#32, 0x85a07b5f#32, 0x436b23e8#32, 0x1cc92596#32, 0x32ca2d8c#32, 0x0c657a79#32],
  [0xf71fc5a9#32, 0x4798a3f4#32, 0x8c87346b#32, 0x8e04ecb9#32, 0x816fd6e9#32, 0x436b23e8#32, 0x1cc92596#32, 0x32ca2d8c#32],
  [0x87912990#32, 0xf71fc5a9#32, 0x4798a3f4#32, 0x8c87346b#32, 0x1e578218#32, 0x816fd6e9#32, 0x436b23e8#32, 0x1cc92596#32],
  [0xd932eb16#32, 0x87912990#32, 0xf71fc5a9#32, 0x4798a3f4#32, 0x745a48de#32, 0x1e578218#32, 0x816fd6e9#32, 0x436b23e8#32],
  [0xc0645fde#32, 0xd932eb16#32, 0x87912990#32, 0xf71fc5a9#32, 0x0b92f20c#32, 0x745a48de#32, 0x1e578218#32, 0x816fd6e9#32],
  [0xb0fa238e#32, 0xc0645fde#32, 0xd932eb16#32, 0x87912990#32, 0x07590dcd#32, 0x0b92f20c#32, 0x745a48de#32, 0x1e578218#32],
  [0x21da9a9b#32, 0xb0fa238e#32, 0xc0645fde#32, 0xd932eb16#32, 0x8034229c#32, 0x07590dcd#32, 0x0b92f20c#32, 0x745a48de#32],
  [0xc2fbd9d1#32, 0x21da9a9b#32, 0xb0fa238e#32, 0xc0645fde#32, 0x846ee454#32, 0x8034229c#32, 0x07590dcd#32, 0x0b92f20c#32],
  [0xfe777bbf#32, 0xc2fbd9d1#32, 0x21da9a9b#32, 0xb0fa238e#32, 0xcc899961#32, 0x846ee454#32, 0x8034229c#32, 0x07590dcd#32],
  [0xe1f20c33#32, 0xfe777bbf#32, 0xc2fbd9d1#32, 0x21da9a9b#32, 0xb0638179#32, 0xcc899961#32, 0x846ee454#32, 0x8034229c#32],
  [0x9dc68b63#32, 0xe1f20c33#32, 0xfe777bbf#32, 0xc2fbd9d1#32, 0x8ada8930#32, 0xb0638179#32, 0xcc899961#32, 0x846ee454#32],
  [0xc2606d6d#32, 0x9dc68b63#32, 0xe1f20c33#32, 0xfe777bbf#32, 0xe1257970#32, 0x8ada8930#32, 0xb0638179#32, 0xcc899961#32],
  [0xa7a3623f#32, 0xc2606d6d#32, 0x9dc68b63#32, 0xe1f20c33#32, 0x49f5114a#32, 0xe1257970#32, 0x8ada8930#32, 0xb0638179#32],
  [0xc5d53d8d#32, 0xa7a3623f#32, 0xc2606d6d#32, 0x9dc68b63#32, 0xaa47c347#32, 0x49f5114a#32, 0xe1257970#32, 0x8ada8930#32],
  [0x1c2c2838#32, 0xc5d53d8d#32, 0xa7a3623f#32, 0xc2606d6d#32, 0x2823ef91#32, 0xaa47c347#32, 0x49f5114a#32, 0xe1257970#32],
  [0xcde8037d#32, 0x1c2c2838#32, 0xc5d53d8d#32, 0xa7a3623f#32, 0x14383d8e#32, 0x2823ef91#32, 0xaa47c347#32, 0x49f5114a#32],
  [0xb62ec4bc#32, 0xcde8037d#32, 0x1c2c2838#32, 0xc5d53d8d#32, 0xc74c6516#32, 0x14383d8e#32, 0x2823ef91#32, 0xaa47c347#32],
  [0x77d37528#32, 0xb62ec4bc#32, 0xcde8037d#32, 0x1c2c2838#32, 0xedffbff8#32, 0xc74c6516#32, 0x14383d8e#32, 0x2823ef91#32],
  [0x363482c9#32, 0x77d37528#32, 0xb62ec4bc#32, 0xcde8037d#32, 0x6112a3b7#32, 0xedffbff8#32, 0xc74c6516#32, 0x14383d8e#32],
  [0xa0060b30#32, 0x363482c9#32, 0x77d37528#32, 0xb62ec4bc#32, 0xade79437#32, 0x6112a3b7#32, 0xedffbff8#32, 0xc74c6516#32],
  [0xea992a22#32, 0xa0060b30#32, 0x363482c9#32, 0x77d37528#32, 0x0109ab3a#32, 0xade79437#32, 0x6112a3b7#32, 0xedffbff8#32],
  [0x73b33bf5#32, 0xea992a22#32, 0xa0060b30#32, 0x363482c9#32, 0xba591112#32, 0x0109ab3a#32, 0xade79437#32, 0x6112a3b7#32],
  [0x98e12507#32, 0x73b33bf5#32, 0xea992a22#32, 0xa0060b30#32, 0x9cd9f5f6#32, 0xba591112#32, 0x0109ab3a#32, 0xade79437#32],
  [0xfe604df5#32, 0x98e12507#32, 0x73b33bf5#32, 0xea992a22#32, 0x59249dd3#32, 0x9cd9f5f6#32, 0xba591112#32, 0x0109ab3a#32],
  [0xa9a7738c#32, 0xfe604df5#32, 0x98e12507#32, 0x73b33bf5#32, 0x085f3833#32, 0x59249dd3#32, 0x9cd9f5f6#32, 0xba591112#32],
  [0x65a0cfe4#32, 0xa9a7738c#32, 0xfe604df5#32, 0x98e12507#32, 0xf4b002d6#32, 0x085f3833#32, 0x59249dd3#32, 0x9cd9f5f6#32],
  [0x41a65cb1#32, 0x65a0cfe4#32, 0xa9a7738c#32, 0xfe604df5#32, 0x0772a26b#32, 0xf4b002d6#32, 0x085f3833#32, 0x59249dd3#32],
  [0x34df1604#32, 0x41a65cb1#32, 0x65a0cfe4#32, 0xa9a7738c#32, 0xa507a53d#32, 0x0772a26b#32, 0xf4b002d6#32, 0x085f3833#32],
  [0x6dc57a8a#32, 0x34df1604#32, 0x41a65cb1#32, 0x65a0cfe4#32, 0xf0781bc8#32, 0xa507a53d#32, 0x0772a26b#32, 0xf4b002d6#32],
  [0x79ea687a#32, 0x6dc57a8a#32, 0x34df1604#32, 0x41a65cb1#32, 0x1efbc0a0#32, 0xf0781bc8#32, 0xa507a53d#32, 0x0772a26b#32],
  [0xd6670766#32, 0x79ea687a#32, 0x6dc57a8a#32, 0x34df1604#32, 0x26352d63#32, 0x1efbc0a0#32, 0xf0781bc8#32, 0xa507a53d#32],
  [0xdf46652f#32, 0xd6670766#32, 0x79ea687a#32, 0x6dc57a8a#32, 0x838b2711#32, 0x26352d63#32, 0x1efbc0a0#32, 0xf0781bc8#32],
  [0x17aa0dfe#32, 0xdf46652f#32, 0xd6670766#32, 0x79ea687a#32, 0xdecd4715#32, 0x838b2711#32, 0x26352d63#32, 0x1efbc0a0#32],
  [0x9d4baf93#32, 0x17aa0dfe#32, 0xdf46652f#32, 0xd6670766#32, 0xfda24c2e#32, 0xdecd4715#32, 0x838b2711#32, 0x26352d63#32],
  [0x26628815#32, 0x9d4baf93#32, 0x17aa0dfe#32, 0xdf46652f#32, 0xa80f11f0#32, 0xfda24c2e#32, 0xdecd4715#32, 0x838b2711#32],
  [0x72ab4b91#32, 0x26628815#32, 0x9d4baf93#32, 0x17aa0dfe#32, 0xb7755da1#32, 0xa80f11f0#32, 0xfda24c2e#32, 0xdecd4715#32],
  [0xa14c14b0#32, 0x72ab4b91#32, 0x26628815#32, 0x9d4baf93#32, 0xd57b94a9#32, 0xb7755da1#32, 0xa80f11f0#32, 0xfda24c2e#32],
  [0x4172328d#32, 0xa14c14b0#32, 0x72ab4b91#32, 0x26628815#32, 0xfecf0bc6#32, 0xd57b94a9#32, 0xb7755da1#32, 0xa80f11f0#32],
  [0x05757ceb#32, 0x4172328d#32, 0xa14c14b0#32, 0x72ab4b91#32, 0xbd714038#32, 0xfecf0bc6#32, 0xd57b94a9#32, 0xb7755da1#32],
  [0xf11bfaa8#32, 0x05757ceb#32, 0x4172328d#32, 0xa14c14b0#32, 0x6e5c390c#32, 0xbd714038#32, 0xfecf0bc6#32, 0xd57b94a9#32],
  [0x7a0508a1#32, 0xf11bfaa8#32, 0x05757ceb#32, 0x4172328d#32, 0x52f1ccf7#32, 0x6e5c390c#32, 0xbd714038#32, 0xfecf0bc6#32],
  [0x886e7a22#32, 0x7a0508a1#32, 0xf11bfaa8#32, 0x05757ceb#32, 0x49231c1e#32, 0x52f1ccf7#32, 0x6e5c390c#32, 0xbd714038#32],
  [0x101fd28f#32, 0x886e7a22#32, 0x7a0508a1#32, 0xf11bfaa8#32, 0x529e7d00#32, 0x49231c1e#32, 0x52f1ccf7#32, 0x6e5c390c#32],
  [0xf5702fdb#32, 0x101fd28f#32, 0x886e7a22#32, 0x7a0508a1#32, 0x9f4787c3#32, 0x529e7d00#32, 0x49231c1e#32, 0x52f1ccf7#32],
  [0x3ec45cdb#32, 0xf5702fdb#32, 0x101fd28f#32, 0x886e7a22#32, 0xe50e1b4f#32, 0x9f4787c3#32, 0x529e7d00#32, 0x49231c1e#32],
  [0x38cc9913#32, 0x3ec45cdb#32, 0xf5702fdb#32, 0x101fd28f#32, 0x54cb266b#32, 0xe50e1b4f#32, 0x9f4787c3#32, 0x529e7d00#32],
  [0xfcd1887b#32, 0x38cc9913#32, 0x3ec45cdb#32, 0xf5702fdb#32, 0x9b5e906c#32, 0x54cb266b#32, 0xe50e1b4f#32, 0x9f4787c3#32],
  [0xc062d46f#32, 0xfcd1887b#32, 0x38cc9913#32, 0x3ec45cdb#32, 0x7e44008e#32, 0x9b5e906c#32, 0x54cb266b#32, 0xe50e1b4f#32],
  [0xffb70472#32, 0xc062d46f#32, 0xfcd1887b#32, 0x38cc9913#32, 0x6d83bfc6#32, 0x7e44008e#32, 0x9b5e906c#32, 0x54cb266b#32],
  [0xb6ae8fff#32, 0xffb70472#32, 0xc062d46f#32, 0xfcd1887b#32, 0xb21bad3d#32, 0x6d83bfc6#32, 0x7e44008e#32, 0x9b5e906c#32],
  [0xb85e2ce9#32, 0xb6ae8fff#32, 0xffb70472#32, 0xc062d46f#32, 0x961f4894#32, 0xb21bad3d#32, 0x6d83bfc6#32, 0x7e44008e#32],
  [0x04d24d6c#32, 0xb85e2ce9#32, 0xb6ae8fff#32, 0xffb70472#32, 0x948d25b6#32, 0x961f4894#32, 0xb21bad3d#32, 0x6d83bfc6#32],
  [0xd39a2165#32, 0x04d24d6c#32, 0xb85e2ce9#32, 0xb6ae8fff#32, 0xfb121210#32, 0x948d25b6#32, 0x961f4894#32, 0xb21bad3d#32],
  [0x506e3058#32, 0xd39a2165#32, 0x04d24d6c#32, 0xb85e2ce9#32, 0x5ef50f24#32, 0xfb121210#32, 0x948d25b6#32, 0x961f4894#32]]
def at8 (l : List (BitVec 32)) (n : Nat) : BitVec 32 := l.getD n 0#32
def stepOk (k p : BitVec 32) (l m : List (BitVec 32)) : Bool := (List.range 8).all fun n => decide (step k p (at8 l) n = at8 m n)
theorem step_congr {k p : BitVec 32} {u v : Nat → BitVec 32} (h : ∀ n, n < 8 → u n = v n) : ∀ n, n < 8 → step k p u n = step k p v n := by
  intro n hn
  have h0 := h 0 (by omega)
  have h1 := h 1 (by omega)
  have h2 := h 2 (by omega)
  have h3 := h 3 (by omega)
  have h4 := h 4 (by omega)
  have h5 := h 5 (by omega)
  have h6 := h 6 (by omega)
  have h7 := h 7 (by omega)
  have e1 : down k p u = down k p v := by simp only [down, h7, h4, h5, h6]
  have e2 : top k p u = top k p v := by simp only [top, e1, h0, h1, h2]
  simp only [step, up, e1, e2, h3, shifted]
  by_cases hz : n = 0
  · simp [hz]
  · simp only [hz, if_false]
    rw [h (n - 1) (by omega)]
theorem rounds_of (p : Nat → BitVec 32) (h : Nat → BitVec 32) (l : List (List (BitVec 32))) (h0 : ∀ n, n < 8 → h n = at8 (l.getD 0 []) n)
    (hs : ∀ k, k < 64 → stepOk (salt k) (p k) (l.getD k []) (l.getD (k + 1) []) = true) : ∀ k, k ≤ 64 → ∀ n, n < 8 → rounds p h k n = at8 (l.getD k []) n
  | 0, _, n, hn => h0 n hn
  | k + 1, hk, n, hn => by
    have ih := rounds_of p h l h0 hs k (by omega)
    have := hs k (by omega)
    rw [stepOk, List.all_eq_true] at this
    have t := of_decide_eq_true (this n (List.mem_range.2 hn))
    rw [rounds, step_congr ih n hn, t]
theorem plan_of (b : Nat → UInt8) (l : List (BitVec 32)) (h0 : ∀ n, n < 16 → bePart b n 4 = at8 l n)
    (hs : ∀ k, k < 48 → at8 l (16 + k) = ss1 (at8 l (14 + k)) + at8 l (9 + k) + ss0 (at8 l (1 + k)) + at8 l k) : ∀ k, k ≤ 48 → ∀ n, n < 16 + k → ext b k n = at8 l n
  | 0, _, n, hn => by
    have : n < 16 := by omega
    simp only [ext, first, this, if_true]
    exact h0 n this
  | k + 1, hk, n, hn => by
    have ih := plan_of b l h0 hs k (by omega)
    simp only [ext, up]
    by_cases h : n = 16 + k
    · subst h
      rw [if_pos rfl, ih _ (by omega), ih _ (by omega), ih _ (by omega), ih _ (by omega), hs k (by omega)]
    · rw [if_neg h]; exact ih n (by omega)
def abcText : List UInt8 := [97, 98, 99] ++ padL 3
theorem abc_first : ∀ n, n < 16 → bePart (fun k => fn abcText (64 * 0 + k)) n 4 = at8 abcPlan n := by decide +kernel
theorem abc_plan : ∀ k, k < 48 → at8 abcPlan (16 + k) = ss1 (at8 abcPlan (14 + k)) + at8 abcPlan (9 + k) + ss0 (at8 abcPlan (1 + k)) + at8 abcPlan k := by decide +kernel
theorem abc_steps : ∀ k, k < 64 → stepOk (salt k) (at8 abcPlan k) (abcStates.getD k []) (abcStates.getD (k + 1) []) = true := by decide +kernel
theorem abc_init : ∀ n, n < 8 → init n = at8 (abcStates.getD 0 []) n := by decide +kernel
theorem abc_words : ∀ n, n < 8 → hashed (fn abcText) 1 n = init n + at8 (abcStates.getD 64 []) n := by
  intro n hn
  have hp : ∀ k, k < 64 → plan (fun k => fn abcText (64 * 0 + k)) k = at8 abcPlan k := fun k hk => plan_of _ abcPlan abc_first abc_plan 48 (Nat.le_refl _) k (by omega)
  have hr := rounds_of (plan (fun k => fn abcText (64 * 0 + k))) init abcStates abc_init (fun k hk => by rw [hp k hk]; exact abc_steps k hk) 64 (Nat.le_refl _) n hn
  rw [hashed, mix, added, if_pos hn, hashed, hr]
theorem abc_len : ([97, 98, 99] ++ padL ([97, 98, 99] : List UInt8).length).length / 64 = 1 := by decide +kernel
theorem abc_sum : sha [97, 98, 99] = bstr 32 (outByte fun n => init n + at8 (abcStates.getD 64 []) n) := by
  rw [sha, abc_len, out]
  refine bstr_congr (fun k hk => ?_)
  have e := abc_words (k / 4) (by omega)
  unfold outByte
  rw [show hashed (fn ([97, 98, 99] ++ padL ([97, 98, 99] : List UInt8).length)) 1 (k / 4) = init (k / 4) + at8 (abcStates.getD 64 []) (k / 4) from e]
def abcSum : ByteArray := ⟨#[186, 120, 22, 191, 143, 1, 207, 234, 65, 65, 64, 222, 93, 174, 34, 35, 176, 3, 97, 163, 150, 23, 122, 156, 180, 16, 255, 97, 242, 0, 21, 173]⟩
theorem abc_is : sha [97, 98, 99] = abcSum := by
  rw [abc_sum]
  have e : (List.range 32).map (outByte fun n => init n + at8 (abcStates.getD 64 []) n) = abcSum.data.toList := by decide +kernel
  rw [bstr, e]
end Sha
end Go.Proofs.YtjjaalmmibfcoaaDoor
