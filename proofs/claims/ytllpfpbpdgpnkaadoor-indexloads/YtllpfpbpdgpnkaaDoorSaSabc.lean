/- The sums of the texts a, b, c, reckoned step by step: each step is checked by the kernel. -/
import Derived.Test.YtllpfpbpdgpnkaaDoorSaOf
namespace Go.Proofs.YtllpfpbpdgpnkaaDoor.Sa
namespace Sha
def at8 (l : List (BitVec 32)) (n : Nat) : BitVec 32 := l.getD n 0#32
def stepOk (k p : BitVec 32) (l m : List (BitVec 32)) : Bool := (List.range 8).all fun n => decide (step k p (at8 l) n = at8 m n)
theorem step_congr {k p : BitVec 32} {u v : Nat → BitVec 32} (h : ∀ n, n < 8 → u n = v n) : ∀ n, n < 8 → step k p u n = step k p v n := by
  intro n hn
  have h0 := h 0 (by omega)
  have h1 := h 1 (by omega)
  have h2 := h 2 (by omega)
  have h3 := h 3 (by omega)
  have h4 := h 4 (by omega)
  have h5 := h 5 (by omega)
  have h6 := h 6 (by omega)
  have h7 := h 7 (by omega)
  have e1 : down k p u = down k p v := by simp only [down, h7, h4, h5, h6]
  have e2 : top k p u = top k p v := by simp only [top, e1, h0, h1, h2]
  simp only [step, up, e1, e2, h3, shifted]
  by_cases hz : n = 0
  · simp [hz]
  · simp only [hz, if_false]
    rw [h (n - 1) (by omega)]
theorem rounds_of (p : Nat → BitVec 32) (h : Nat → BitVec 32) (l : List (List (BitVec 32))) (h0 : ∀ n, n < 8 → h n = at8 (l.getD 0 []) n)
    (hs : ∀ k, k < 64 → stepOk (salt k) (p k) (l.getD k []) (l.getD (k + 1) []) = true) : ∀ k, k ≤ 64 → ∀ n, n < 8 → rounds p h k n = at8 (l.getD k []) n
  | 0, _, n, hn => h0 n hn
  | k + 1, hk, n, hn => by
    have ih := rounds_of p h l h0 hs k (by omega)
    have := hs k (by omega)
    rw [stepOk, List.all_eq_true] at this
    have t := of_decide_eq_true (this n (List.mem_range.2 hn))
    rw [rounds, step_congr ih n hn, t]
theorem plan_of (b : Nat → UInt8) (l : List (BitVec 32)) (h0 : ∀ n, n < 16 → bePart b n 4 = at8 l n)
    (hs : ∀ k, k < 48 → at8 l (16 + k) = ss1 (at8 l (14 + k)) + at8 l (9 + k) + ss0 (at8 l (1 + k)) + at8 l k) : ∀ k, k ≤ 48 → ∀ n, n < 16 + k → ext b k n = at8 l n
  | 0, _, n, hn => by
    have : n < 16 := by omega
    simp only [ext, first, this, if_true]
    exact h0 n this
  | k + 1, hk, n, hn => by
    have ih := plan_of b l h0 hs k (by omega)
    simp only [ext, up]
    by_cases h : n = 16 + k
    · subst h
      rw [if_pos rfl, ih _ (by omega), ih _ (by omega), ih _ (by omega), ih _ (by omega), hs k (by omega)]
    · rw [if_neg h]; exact ih n (by omega)
def taPlan : List (BitVec 32) := [0x61800000#32, 0x00000000#32, 0x00000000#32, 0x00000000#32, 0x00000000#32, 0x00000000#32, 0x00000000#32, 0x00000000#32, 0x00000000#32, 0x00000000#32, 0x00000000#32, 0x00000000#32, 0x00000000#32, 0x00000000#32, 0x00000000#32, 0x00000008#32, 0x61800000#32, 0x00050000#32, 0x00185cf0#32, 0x20000142#32, 0x25e60618#32, 0x00815400#32, 0xc3c66fd6#32, 0xe2002005#32, 0xfa264800#32, 0x14532a38#32, 0x0d3eed07#32, 0x16442281#32, 0xaba17c83#32, 0x58dba8b8#32, 0x83fd6901#32, 0xa8767204#32, 0xcf53e314#32, 0xfbec04d1#32, 0x24483256#32, 0x03debd05#32, 0xf33b9b79#32, 0x3bac8510#32, 0x4ab167b6#32, 0x1029afb4#32, 0x4d7e532f#32, 0xcfc0403d#32, 0xfd430414#32, 0x7eadf383#32, 0x5b8a87cb#32, 0x3473c37a#32, 0x28104583#32, 0x5885edea#32, 0x874e3ed4#32, 0xe8e16e4a#32, 0x20c450c7#32, 0x059ece9e#32, 0xd0696ba4#32, 0x5e894cf7#32, 0x3d92a0a6#32, 0xeb69baea#32, 0xad117ac3#32, 0xd1ef5d95#32, 0x0abcf462#32, 0xd0981b58#32, 0xa10bd2eb#32, 0x932c9ab8#32, 0x4b560704#32, 0x1a1973f6#32]
def taStates : List (List (BitVec 32)) := [
  [0x6a09e667#32, 0xbb67ae85#32, 0x3c6ef372#32, 0xa54ff53a#32, 0x510e527f#32, 0x9b05688c#32, 0x1f83d9ab#32, 0x5be0cd19#32],
  [0x5d88884d#32, 0x6a09e667#32, 0xbb67ae85#32, 0x3c6ef372#32, 0xfa47e2a2#32, 0x510e527f#32, 0x9b05688c#32, 0x1f83d9ab#32],
  [0x903c17db#32, 0x5d88884d#32, 0x6a09e667#32, 0xbb67ae85#32, 0x1a7761e7#32, 0xfa47e2a2#32, 0x510e527f#32, 0x9b05688c#32],
  [0x49e5a8a0#32, 0x903c17db#32, 0x5d88884d#32, 0x6a09e667#32, 0x02b7e680#32, 0x1a7761e7#32, 0xfa47e2a2#32, 0x510e527f#32],
  [0xdcbb8518#32, 0x49e5a8a0#32, 0x903c17db#32, 0x5d88884d#32, 0x2b3f3e94#32, 0x02b7e680#32, 0x1a7761e7#32, 0xfa47e2a2#32],
  [0x2e86cb68#32, 0xdcbb8518#32, 0x49e5a8a0#32, 0x903c17db#32, 0xc1556635#32, 0x2b3f3e94#32, 0x02b7e680#32, 0x1a7761e7#32],
  [0xcba36fbe#32, 0x2e86cb68#32, 0xdcbb8518#32, 0x49e5a8a0#32, 0xc36a981b#32, 0xc1556635#32, 0x2b3f3e94#32, 0x02b7e680#32],
  [0x68caa79d#32, 0xcba36fbe#32, 0x2e86cb68#32, 0xdcbb8518#32, 0xa16c032b#32, 0xc36a981b#32, 0xc1556635#32, 0x2b3f3e94#32],
  [0xcc8f93b1#32, 0x68caa79d#32, 0xcba36fbe#32, 0x2e86cb68#32, 0xf2808efc#32, 0xa16c032b#32, 0xc36a981b#32, 0xc1556635#32],
  [0x40493eaa#32, 0xcc8f93b1#32, 0x68caa79d#32, 0xcba36fbe#32, 0xd5611ab3#32, 0xf2808efc#32, 0xa16c032b#32, 0xc36a981b#32],
  [0x7a230d12#32, 0x40493eaa#32, 0xcc8f93b1#32, 0x68caa79d#32, 0xbb3fe035#32, 0xd5611ab3#32, 0xf2808efc#32, 0xa16c032b#32],
  [0xa92495e9#32, 0x7a230d12#32, 0x40493eaa#32, 0xcc8f93b1#32, 0x4fb4c220#32, 0xbb3fe035#32, 0xd5611ab3#32, 0xf2808efc#32],
  [0xc1ce03cd#32, 0xa92495e9#32, 0x7a230d12#32, 0x40493eaa#32, 0xcee8aeda#32, 0x4fb4c220#32, 0xbb3fe035#32, 0xd5611ab3#32],
  [0xcb450c62#32, 0xc1ce03cd#32, 0xa92495e9#32, 0x7a230d12#32, 0xcc558bbf#32, 0xcee8aeda#32, 0x4fb4c220#32, 0xbb3fe035#32],
  [0x3d46f84c#32, 0xcb450c62#32, 0xc1ce03cd#32, 0xa92495e9#32, 0x282f6d58#32, 0xcc558bbf#32, 0xcee8aeda#32, 0x4fb4c220#32],
  [0x3680d5ca#32, 0x3d46f84c#32, 0xcb450c62#32, 0xc1ce03cd#32, 0x3f8dfe96#32, 0x282f6d58#32, 0xcc558bbf#32, 0xcee8aeda#32],
  [0x259420e1#32, 0x3680d5ca#32, 0x3d46f84c#32, 0xcb450c62#32, 0x87769eb6#32, 0x3f8dfe96#32, 0x282f6d58#32, 0xcc558bbf#32],
  [0x4d75f61f#32, 0x259420e1#32, 0x3680d5ca#32, 0x3d46f84c#32, 0xc44671aa#32, 0x87769eb6#32, 0x3f8dfe96#32, 0x282f6d58#32],
  [0x6f47f7e6#32, 0x4d75f61f#32, 0x259420e1#32, 0x3680d5ca#32, 0xd27a904a#32, 0xc44671aa#32, 0x87769eb6#32, 0x3f8dfe96#32],
  [0xdc9cade6#32, 0x6f47f7e6#32, 0x4d75f61f#32, 0x259420e1#32, 0x6a8a6e4e#32, 0xd27a904a#32, 0xc44671aa#32, 0x87769eb6#32],
  [0x3f1e0043#32, 0xdc9cade6#32, 0x6f47f7e6#32, 0x4d75f61f#32, 0x6cb5d450#32, 0x6a8a6e4e#32, 0xd27a904a#32, 0xc44671aa#32],
  [0xd9336c5a#32, 0x3f1e0043#32, 0xdc9cade6#32, 0x6f47f7e6#32, 0xf1ab4877#32, 0x6cb5d450#32, 0x6a8a6e4e#32, 0xd27a904a#32],
  [0x82f81927#32, 0xd9336c5a#32, 0x3f1e0043#32, 0xdc9cade6#32, 0xfbf66ae2#32, 0xf1ab4877#32, 0x6cb5d450#32, 0x6a8a6e4e#32],
  [0x124bd252#32, 0x82f81927#32, 0xd9336c5a#32, 0x3f1e0043#32, 0x89c7e873#32, 0xfbf66ae2#32, 0xf1ab4877#32, 0x6cb5d450#32],
  [0xaf068b02#32, 0x124bd252#32, 0x82f81927#32, 0xd9336c5a#32, 0x225e0470#32, 0x89c7e873#32, 0xfbf66ae2#32, 0xf1ab4877#32],
  [0x2bc8c3c5#32, 0xaf068b02#32, 0x124bd252#32, 0x82f81927#32, 0x98b8c4d5#32, 0x225e0470#32, 0x89c7e873#32, 0xfbf66ae2#32],
  [0xedad641a#32, 0x2bc8c3c5#32, 0xaf068b02#32, 0x124bd252#32, 0xcd863fe7#32, 0x98b8c4d5#32, 0x225e0470#32, 0x89c7e873#32],
  [0x706b80d2#32, 0xedad641a#32, 0x2bc8c3c5#32, 0xaf068b02#32, 0xa4fe3047#32, 0xcd863fe7#32, 0x98b8c4d5#32, 0x225e0470#32],
  [0x9c75cbdf#32, 0x706b80d2#32, 0xedad641a#32, 0x2bc8c3c5#32, 0xad086b66#32, 0xa4fe3047#32, 0xcd863fe7#32, 0x98b8c4d5#32],
  [0xcd59660a#32, 0x9c75cbdf#32, 0x706b80d2#32, 0xedad641a#32, 0x8de579cd#32, 0xad086b66#32, 0xa4fe3047#32, 0xcd863fe7#32],
  [0x69708e10#32, 0xcd59660a#32, 0x9c75cbdf#32, 0x706b80d2#32, 0x940c16d4#32, 0x8de579cd#32, 0xad086b66#32, 0xa4fe3047#32],
  [0xe1ed49d1#32, 0x69708e10#32, 0xcd59660a#32, 0x9c75cbdf#32, 0xdbffd2e4#32, 0x940c16d4#32, 0x8de579cd#32, 0xad086b66#32],
  [0x9b1e9e23#32, 0xe1ed49d1#32, 0x69708e10#32, 0xcd59660a#32, 0xca480159#32, 0xdbffd2e4#32, 0x940c16d4#32, 0x8de579cd#32],
  [0x226dc32b#32, 0x9b1e9e23#32, 0xe1ed49d1#32, 0x69708e10#32, 0x98a6aa14#32, 0xca480159#32, 0xdbffd2e4#32, 0x940c16d4#32],
  [0xd74dac4e#32, 0x226dc32b#32, 0x9b1e9e23#32, 0xe1ed49d1#32, 0x3681a00e#32, 0x98a6aa14#32, 0xca480159#32, 0xdbffd2e4#32],
  [0x146c5e88#32, 0xd74dac4e#32, 0x226dc32b#32, 0x9b1e9e23#32, 0x81f7300b#32, 0x3681a00e#32, 0x98a6aa14#32, 0xca480159#32],
  [0x655fc010#32, 0x146c5e88#32, 0xd74dac4e#32, 0x226dc32b#32, 0xa9eefb98#32, 0x81f7300b#32, 0x3681a00e#32, 0x98a6aa14#32],
  [0x2bc59acb#32, 0x655fc010#32, 0x146c5e88#32, 0xd74dac4e#32, 0x9210f67f#32, 0xa9eefb98#32, 0x81f7300b#32, 0x3681a00e#32],
  [0xd4524eb8#32, 0x2bc59acb#32, 0x655fc010#32, 0x146c5e88#32, 0x7b8f0c4d#32, 0x9210f67f#32, 0xa9eefb98#32, 0x81f7300b#32],
  [0xcbd4613e#32, 0xd4524eb8#32, 0x2bc59acb#32, 0x655fc010#32, 0x710022c1#32, 0x7b8f0c4d#32, 0x9210f67f#32, 0xa9eefb98#32],
  [0xd3f2f504#32, 0xcbd4613e#32, 0xd4524eb8#32, 0x2bc59acb#32, 0x82f6ac97#32, 0x710022c1#32, 0x7b8f0c4d#32, 0x9210f67f#32],
  [0xdde6b993#32, 0xd3f2f504#32, 0xcbd4613e#32, 0xd4524eb8#32, 0xdecbbd89#32, 0x82f6ac97#32, 0x710022c1#32, 0x7b8f0c4d#32],
  [0x07c29440#32, 0xdde6b993#32, 0xd3f2f504#32, 0xcbd4613e#32, 0x5f1ce3bc#32, 0xdecbbd89#32, 0x82f6ac97#32, 0x710022c1#32],
  [0x9983fe28#32, 0x07c29440#32, 0xdde6b993#32, 0xd3f2f504#32, 0xe3d40f4b#32, 0x5f1ce3bc#32, 0xdecbbd89#32, 0x82f6ac97#32],
  [0xcbc48285#32, 0x9983fe28#32, 0x07c29440#32, 0xdde6b993#32, 0x29182996#32, 0xe3d40f4b#32, 0x5f1ce3bc#32, 0xdecbbd89#32],
  [0x6a0b80f8#32, 0xcbc48285#32, 0x9983fe28#32, 0x07c29440#32, 0x475a3ae1#32, 0x29182996#32, 0xe3d40f4b#32, 0x5f1ce3bc#32],
  [0x7eb4a265#32, 0x6a0b80f8#32, 0xcbc48285#32, 0x9983fe28#32, 0x87b16233#32, 0x475a3ae1#32, 0x29182996#32, 0xe3d40f4b#32],
  [0x887dac0a#32, 0x7eb4a265#32, 0x6a0b80f8#32, 0xcbc48285#32, 0x196dde87#32, 0x87b16233#32, 0x475a3ae1#32, 0x29182996#32],
  [0xf2de96d6#32, 0x887dac0a#32, 0x7eb4a265#32, 0x6a0b80f8#32, 0x1f6a7625#32, 0x196dde87#32, 0x87b16233#32, 0x475a3ae1#32],
  [0xd383f5cb#32, 0xf2de96d6#32, 0x887dac0a#32, 0x7eb4a265#32, 0xd23767f3#32, 0x1f6a7625#32, 0x196dde87#32, 0x87b16233#32],
  [0xfcffa031#32, 0xd383f5cb#32, 0xf2de96d6#32, 0x887dac0a#32, 0x536b3fa9#32, 0xd23767f3#32, 0x1f6a7625#32, 0x196dde87#32],
  [0x18a6a044#32, 0xfcffa031#32, 0xd383f5cb#32, 0xf2de96d6#32, 0x2e13cf79#32, 0x536b3fa9#32, 0xd23767f3#32, 0x1f6a7625#32],
  [0xa58b807d#32, 0x18a6a044#32, 0xfcffa031#32, 0xd383f5cb#32, 0x2139f9cc#32, 0x2e13cf79#32, 0x536b3fa9#32, 0xd23767f3#32],
  [0xe54ab1c5#32, 0xa58b807d#32, 0x18a6a044#32, 0xfcffa031#32, 0xb790cc46#32, 0x2139f9cc#32, 0x2e13cf79#32, 0x536b3fa9#32],
  [0x0794c6d0#32, 0xe54ab1c5#32, 0xa58b807d#32, 0x18a6a044#32, 0x814f350b#32, 0xb790cc46#32, 0x2139f9cc#32, 0x2e13cf79#32],
  [0x9b6c6607#32, 0x0794c6d0#32, 0xe54ab1c5#32, 0xa58b807d#32, 0xaa0a386a#32, 0x814f350b#32, 0xb790cc46#32, 0x2139f9cc#32],
  [0x9c1b38fe#32, 0x9b6c6607#32, 0x0794c6d0#32, 0xe54ab1c5#32, 0x52d9f627#32, 0xaa0a386a#32, 0x814f350b#32, 0xb790cc46#32],
  [0x3cc865dc#32, 0x9c1b38fe#32, 0x9b6c6607#32, 0x0794c6d0#32, 0x76e4dc35#32, 0x52d9f627#32, 0xaa0a386a#32, 0x814f350b#32],
  [0x64573473#32, 0x3cc865dc#32, 0x9c1b38fe#32, 0x9b6c6607#32, 0xcf5f069e#32, 0x76e4dc35#32, 0x52d9f627#32, 0xaa0a386a#32],
  [0xfa76c8e4#32, 0x64573473#32, 0x3cc865dc#32, 0x9c1b38fe#32, 0x3328d7b9#32, 0xcf5f069e#32, 0x76e4dc35#32, 0x52d9f627#32],
  [0x9e76945a#32, 0xfa76c8e4#32, 0x64573473#32, 0x3cc865dc#32, 0x1ba175fe#32, 0x3328d7b9#32, 0xcf5f069e#32, 0x76e4dc35#32],
  [0xf4d3e713#32, 0x9e76945a#32, 0xfa76c8e4#32, 0x64573473#32, 0x540d7ba2#32, 0x1ba175fe#32, 0x3328d7b9#32, 0xcf5f069e#32],
  [0xbe533e41#32, 0xf4d3e713#32, 0x9e76945a#32, 0xfa76c8e4#32, 0x99fc9dda#32, 0x540d7ba2#32, 0x1ba175fe#32, 0x3328d7b9#32],
  [0x0eb40f45#32, 0xbe533e41#32, 0xf4d3e713#32, 0x9e76945a#32, 0x7976e5e6#32, 0x99fc9dda#32, 0x540d7ba2#32, 0x1ba175fe#32],
  [0x608d9aab#32, 0x0eb40f45#32, 0xbe533e41#32, 0xf4d3e713#32, 0x56789d79#32, 0x7976e5e6#32, 0x99fc9dda#32, 0x540d7ba2#32]]
def taText : List UInt8 := [97] ++ padL 1
theorem ta_first : ∀ n, n < 16 → bePart (fun k => fn taText (64 * 0 + k)) n 4 = at8 taPlan n := by decide +kernel
theorem ta_plan : ∀ k, k < 48 → at8 taPlan (16 + k) = ss1 (at8 taPlan (14 + k)) + at8 taPlan (9 + k) + ss0 (at8 taPlan (1 + k)) + at8 taPlan k := by decide +kernel
theorem ta_steps : ∀ k, k < 64 → stepOk (salt k) (at8 taPlan k) (taStates.getD k []) (taStates.getD (k + 1) []) = true := by decide +kernel
theorem ta_init : ∀ n, n < 8 → init n = at8 (taStates.getD 0 []) n := by decide +kernel
theorem ta_words : ∀ n, n < 8 → hashed (fn taText) 1 n = init n + at8 (taStates.getD 64 []) n := by
  intro n hn
  have hp : ∀ k, k < 64 → plan (fun k => fn taText (64 * 0 + k)) k = at8 taPlan k := fun k hk => plan_of _ taPlan ta_first ta_plan 48 (Nat.le_refl _) k (by omega)
  have hr := rounds_of (plan (fun k => fn taText (64 * 0 + k))) init taStates ta_init (fun k hk => by rw [hp k hk]; exact ta_steps k hk) 64 (Nat.le_refl _) n hn
  rw [hashed, mix, added, if_pos hn, hashed, hr]
theorem ta_len : ([97] ++ padL ([97] : List UInt8).length).length / 64 = 1 := by decide +kernel
theorem ta_sum : sha [97] = bstr 32 (outByte fun n => init n + at8 (taStates.getD 64 []) n) := by
  rw [sha, ta_len, out]
  refine bstr_congr (fun k hk => ?_)
  have e := ta_words (k / 4) (by omega)
  unfold outByte
  rw [show hashed (fn ([97] ++ padL ([97] : List UInt8).length)) 1 (k / 4) = init (k / 4) + at8 (taStates.getD 64 []) (k / 4) from e]
def taSum : ByteArray := ⟨#[202, 151, 129, 18, 202, 27, 189, 202, 250, 194, 49, 179, 154, 35, 220, 77, 167, 134, 239, 248, 20, 124, 78, 114, 185, 128, 119, 133, 175, 238, 72, 187]⟩
theorem ta_is : sha [97] = taSum := by
  rw [ta_sum]
  have e : (List.range 32).map (outByte fun n => init n + at8 (taStates.getD 64 []) n) = taSum.data.toList := by decide +kernel
  rw [bstr, e]
def tbPlan : List (BitVec 32) := [0x62800000#32, 0x00000000#32, 0x00000000#32, 0x00000000#32, 0x00000000#32, 0x00000000#32, 0x00000000#32, 0x00000000#32, 0x00000000#32, 0x00000000#32, 0x00000000#32, 0x00000000#32, 0x00000000#32, 0x00000000#32, 0x00000000#32, 0x00000008#32, 0x62800000#32, 0x00050000#32, 0x00189d10#32, 0x20000142#32, 0x5d2a0628#32, 0x00815400#32, 0x43c66fb9#32, 0xe3002005#32, 0xfa407800#32, 0x14532af8#32, 0x533ef3b8#32, 0x4d502291#32, 0xa8414044#32, 0x58d04ac3#32, 0x7b02f17e#32, 0x33058408#32, 0xdd620756#32, 0xcd14f4d9#32, 0x10f03567#32, 0x879adf1e#32, 0x2726cf5e#32, 0x90e2cce0#32, 0x54c08f05#32, 0x00e73b99#32, 0x55e963d2#32, 0x6632b15f#32, 0x9bf4e42a#32, 0x4f5e45fa#32, 0xc6f670da#32, 0xe7ac58aa#32, 0xe9366a98#32, 0x682bdfcb#32, 0xd2c8a113#32, 0xbe76cfe4#32, 0x3f296c31#32, 0x182fc2fa#32, 0x0a6a526f#32, 0xb72e4228#32, 0x1d60d6f9#32, 0xb40ecf55#32, 0xa46313a4#32, 0xe30d6075#32, 0x0bc06d80#32, 0xa73aba6f#32, 0x18a811d4#32, 0xc5b3b542#32, 0x1443d57e#32, 0xce7fbbc3#32]
def tbStates : List (List (BitVec 32)) := [
  [0x6a09e667#32, 0xbb67ae85#32, 0x3c6ef372#32, 0xa54ff53a#32, 0x510e527f#32, 0x9b05688c#32, 0x1f83d9ab#32, 0x5be0cd19#32],
  [0x5e88884d#32, 0x6a09e667#32, 0xbb67ae85#32, 0x3c6ef372#32, 0xfb47e2a2#32, 0x510e527f#32, 0x9b05688c#32, 0x1f83d9ab#32],
  [0x0ff81fe7#32, 0x5e88884d#32, 0x6a09e667#32, 0xbb67ae85#32, 0x9a7381e7#32, 0xfb47e2a2#32, 0x510e527f#32, 0x9b05688c#32],
  [0xf2b31d3c#32, 0x0ff81fe7#32, 0x5e88884d#32, 0x6a09e667#32, 0x82d85954#32, 0x9a7381e7#32, 0xfb47e2a2#32, 0x510e527f#32],
  [0xc2cb20c3#32, 0xf2b31d3c#32, 0x0ff81fe7#32, 0x5e88884d#32, 0xb4dd48a0#32, 0x82d85954#32, 0x9a7381e7#32, 0xfb47e2a2#32],
  [0x55261c5e#32, 0xc2cb20c3#32, 0xf2b31d3c#32, 0x0ff81fe7#32, 0x1683b562#32, 0xb4dd48a0#32, 0x82d85954#32, 0x9a7381e7#32],
  [0xb16dbf85#32, 0x55261c5e#32, 0xc2cb20c3#32, 0xf2b31d3c#32, 0xfef86b9b#32, 0x1683b562#32, 0xb4dd48a0#32, 0x82d85954#32],
  [0x84471f86#32, 0xb16dbf85#32, 0x55261c5e#32, 0xc2cb20c3#32, 0x7f020db2#32, 0xfef86b9b#32, 0x1683b562#32, 0xb4dd48a0#32],
  [0xb3f3b1dd#32, 0x84471f86#32, 0xb16dbf85#32, 0x55261c5e#32, 0x9ffbb352#32, 0x7f020db2#32, 0xfef86b9b#32, 0x1683b562#32],
  [0x29c12733#32, 0xb3f3b1dd#32, 0x84471f86#32, 0xb16dbf85#32, 0xa0a97ee7#32, 0x9ffbb352#32, 0x7f020db2#32, 0xfef86b9b#32],
  [0xa129bfeb#32, 0x29c12733#32, 0xb3f3b1dd#32, 0x84471f86#32, 0xb95e7c77#32, 0xa0a97ee7#32, 0x9ffbb352#32, 0x7f020db2#32],
  [0x9cd47ce7#32, 0xa129bfeb#32, 0x29c12733#32, 0xb3f3b1dd#32, 0xcd511c3f#32, 0xb95e7c77#32, 0xa0a97ee7#32, 0x9ffbb352#32],
  [0x6aff498d#32, 0x9cd47ce7#32, 0xa129bfeb#32, 0x29c12733#32, 0x2337539e#32, 0xcd511c3f#32, 0xb95e7c77#32, 0xa0a97ee7#32],
  [0xd292bbb0#32, 0x6aff498d#32, 0x9cd47ce7#32, 0xa129bfeb#32, 0x6763b4c2#32, 0x2337539e#32, 0xcd511c3f#32, 0xb95e7c77#32],
  [0x841ebda2#32, 0xd292bbb0#32, 0x6aff498d#32, 0x9cd47ce7#32, 0xa6a50ab5#32, 0x6763b4c2#32, 0x2337539e#32, 0xcd511c3f#32],
  [0x5c8f4df5#32, 0x841ebda2#32, 0xd292bbb0#32, 0x6aff498d#32, 0xffe00baf#32, 0xa6a50ab5#32, 0x6763b4c2#32, 0x2337539e#32],
  [0x9fda4ff4#32, 0x5c8f4df5#32, 0x841ebda2#32, 0xd292bbb0#32, 0x307bf95c#32, 0xffe00baf#32, 0xa6a50ab5#32, 0x6763b4c2#32],
  [0x9a2a85f6#32, 0x9fda4ff4#32, 0x5c8f4df5#32, 0x841ebda2#32, 0x9eb13462#32, 0x307bf95c#32, 0xffe00baf#32, 0xa6a50ab5#32],
  [0x2840a9f5#32, 0x9a2a85f6#32, 0x9fda4ff4#32, 0x5c8f4df5#32, 0xeaab6f62#32, 0x9eb13462#32, 0x307bf95c#32, 0xffe00baf#32],
  [0x7e558f75#32, 0x2840a9f5#32, 0x9a2a85f6#32, 0x9fda4ff4#32, 0x397b929d#32, 0xeaab6f62#32, 0x9eb13462#32, 0x307bf95c#32],
  [0x6a0324ed#32, 0x7e558f75#32, 0x2840a9f5#32, 0x9a2a85f6#32, 0x5d99a264#32, 0x397b929d#32, 0xeaab6f62#32, 0x9eb13462#32],
  [0xd1e6f811#32, 0x6a0324ed#32, 0x7e558f75#32, 0x2840a9f5#32, 0x9057a388#32, 0x5d99a264#32, 0x397b929d#32, 0xeaab6f62#32],
  [0x90bcad3c#32, 0xd1e6f811#32, 0x6a0324ed#32, 0x7e558f75#32, 0x0f9e3448#32, 0x9057a388#32, 0x5d99a264#32, 0x397b929d#32],
  [0x20560693#32, 0x90bcad3c#32, 0xd1e6f811#32, 0x6a0324ed#32, 0x0e858ce3#32, 0x0f9e3448#32, 0x9057a388#32, 0x5d99a264#32],
  [0xde94a536#32, 0x20560693#32, 0x90bcad3c#32, 0xd1e6f811#32, 0x130a4e7d#32, 0x0e858ce3#32, 0x0f9e3448#32, 0x9057a388#32],
  [0x4d4fcbfc#32, 0xde94a536#32, 0x20560693#32, 0x90bcad3c#32, 0xc21b1845#32, 0x130a4e7d#32, 0x0e858ce3#32, 0x0f9e3448#32],
  [0xace2b1e1#32, 0x4d4fcbfc#32, 0xde94a536#32, 0x20560693#32, 0x7daa6db3#32, 0xc21b1845#32, 0x130a4e7d#32, 0x0e858ce3#32],
  [0x3e3a67c7#32, 0xace2b1e1#32, 0x4d4fcbfc#32, 0xde94a536#32, 0x22d77e88#32, 0x7daa6db3#32, 0xc21b1845#32, 0x130a4e7d#32],
  [0xdf01f95d#32, 0x3e3a67c7#32, 0xace2b1e1#32, 0x4d4fcbfc#32, 0x790345d4#32, 0x22d77e88#32, 0x7daa6db3#32, 0xc21b1845#32],
  [0x39a07b4b#32, 0xdf01f95d#32, 0x3e3a67c7#32, 0xace2b1e1#32, 0x0e01645e#32, 0x790345d4#32, 0x22d77e88#32, 0x7daa6db3#32],
  [0x9d430dd1#32, 0x39a07b4b#32, 0xdf01f95d#32, 0x3e3a67c7#32, 0x7528452c#32, 0x0e01645e#32, 0x790345d4#32, 0x22d77e88#32],
  [0xd40d92cb#32, 0x9d430dd1#32, 0x39a07b4b#32, 0xdf01f95d#32, 0x6f5b1220#32, 0x7528452c#32, 0x0e01645e#32, 0x790345d4#32],
  [0x7f8bf637#32, 0xd40d92cb#32, 0x9d430dd1#32, 0x39a07b4b#32, 0x6c75e83b#32, 0x6f5b1220#32, 0x7528452c#32, 0x0e01645e#32],
  [0x7f293307#32, 0x7f8bf637#32, 0xd40d92cb#32, 0x9d430dd1#32, 0x9a3c3b53#32, 0x6c75e83b#32, 0x6f5b1220#32, 0x7528452c#32],
  [0x7a1cfc92#32, 0x7f293307#32, 0x7f8bf637#32, 0xd40d92cb#32, 0xb518afe8#32, 0x9a3c3b53#32, 0x6c75e83b#32, 0x6f5b1220#32],
  [0x027af308#32, 0x7a1cfc92#32, 0x7f293307#32, 0x7f8bf637#32, 0x4d97e991#32, 0xb518afe8#32, 0x9a3c3b53#32, 0x6c75e83b#32],
  [0x88b83849#32, 0x027af308#32, 0x7a1cfc92#32, 0x7f293307#32, 0x1af8ac62#32, 0x4d97e991#32, 0xb518afe8#32, 0x9a3c3b53#32],
  [0x97391c2f#32, 0x88b83849#32, 0x027af308#32, 0x7a1cfc92#32, 0xcba5e93d#32, 0x1af8ac62#32, 0x4d97e991#32, 0xb518afe8#32],
  [0x307626c7#32, 0x97391c2f#32, 0x88b83849#32, 0x027af308#32, 0x4798aab1#32, 0xcba5e93d#32, 0x1af8ac62#32, 0x4d97e991#32],
  [0x92570a63#32, 0x307626c7#32, 0x97391c2f#32, 0x88b83849#32, 0xe1daaa5b#32, 0x4798aab1#32, 0xcba5e93d#32, 0x1af8ac62#32],
  [0x41d66891#32, 0x92570a63#32, 0x307626c7#32, 0x97391c2f#32, 0x4c76b40a#32, 0xe1daaa5b#32, 0x4798aab1#32, 0xcba5e93d#32],
  [0xf9002dde#32, 0x41d66891#32, 0x92570a63#32, 0x307626c7#32, 0x32854dba#32, 0x4c76b40a#32, 0xe1daaa5b#32, 0x4798aab1#32],
  [0xd5c5e291#32, 0xf9002dde#32, 0x41d66891#32, 0x92570a63#32, 0x64e527f3#32, 0x32854dba#32, 0x4c76b40a#32, 0xe1daaa5b#32],
  [0xf2599ba5#32, 0xd5c5e291#32, 0xf9002dde#32, 0x41d66891#32, 0x3c76ab9b#32, 0x64e527f3#32, 0x32854dba#32, 0x4c76b40a#32],
  [0x68035cc0#32, 0xf2599ba5#32, 0xd5c5e291#32, 0xf9002dde#32, 0xf0c0b5d0#32, 0x3c76ab9b#32, 0x64e527f3#32, 0x32854dba#32],
  [0x7aaeae24#32, 0x68035cc0#32, 0xf2599ba5#32, 0xd5c5e291#32, 0x91fc6af7#32, 0xf0c0b5d0#32, 0x3c76ab9b#32, 0x64e527f3#32],
  [0xadaa6c41#32, 0x7aaeae24#32, 0x68035cc0#32, 0xf2599ba5#32, 0x3433c118#32, 0x91fc6af7#32, 0xf0c0b5d0#32, 0x3c76ab9b#32],
  [0x4e63e323#32, 0xadaa6c41#32, 0x7aaeae24#32, 0x68035cc0#32, 0x373c2193#32, 0x3433c118#32, 0x91fc6af7#32, 0xf0c0b5d0#32],
  [0xb2ab5527#32, 0x4e63e323#32, 0xadaa6c41#32, 0x7aaeae24#32, 0x66f5bcd8#32, 0x373c2193#32, 0x3433c118#32, 0x91fc6af7#32],
  [0xcc58d723#32, 0xb2ab5527#32, 0x4e63e323#32, 0xadaa6c41#32, 0xaf98414b#32, 0x66f5bcd8#32, 0x373c2193#32, 0x3433c118#32],
  [0x0b420518#32, 0xcc58d723#32, 0xb2ab5527#32, 0x4e63e323#32, 0xc12bc1f7#32, 0xaf98414b#32, 0x66f5bcd8#32, 0x373c2193#32],
  [0x65f60498#32, 0x0b420518#32, 0xcc58d723#32, 0xb2ab5527#32, 0x080ad71d#32, 0xc12bc1f7#32, 0xaf98414b#32, 0x66f5bcd8#32],
  [0x215a7679#32, 0x65f60498#32, 0x0b420518#32, 0xcc58d723#32, 0xa106f787#32, 0x080ad71d#32, 0xc12bc1f7#32, 0xaf98414b#32],
  [0x53eee892#32, 0x215a7679#32, 0x65f60498#32, 0x0b420518#32, 0x6caf47d5#32, 0xa106f787#32, 0x080ad71d#32, 0xc12bc1f7#32],
  [0xadc018eb#32, 0x53eee892#32, 0x215a7679#32, 0x65f60498#32, 0xeb384d4f#32, 0x6caf47d5#32, 0xa106f787#32, 0x080ad71d#32],
  [0x41c7d17b#32, 0xadc018eb#32, 0x53eee892#32, 0x215a7679#32, 0x59a4968b#32, 0xeb384d4f#32, 0x6caf47d5#32, 0xa106f787#32],
  [0xdf6b4ff4#32, 0x41c7d17b#32, 0xadc018eb#32, 0x53eee892#32, 0x7a10d60b#32, 0x59a4968b#32, 0xeb384d4f#32, 0x6caf47d5#32],
  [0xf6bdd88a#32, 0xdf6b4ff4#32, 0x41c7d17b#32, 0xadc018eb#32, 0x97a56b47#32, 0x7a10d60b#32, 0x59a4968b#32, 0xeb384d4f#32],
  [0xab906c99#32, 0xf6bdd88a#32, 0xdf6b4ff4#32, 0x41c7d17b#32, 0xf2c5c374#32, 0x97a56b47#32, 0x7a10d60b#32, 0x59a4968b#32],
  [0xb3cc36dd#32, 0xab906c99#32, 0xf6bdd88a#32, 0xdf6b4ff4#32, 0xa63f9ab5#32, 0xf2c5c374#32, 0x97a56b47#32, 0x7a10d60b#32],
  [0x9fdc3af4#32, 0xb3cc36dd#32, 0xab906c99#32, 0xf6bdd88a#32, 0xe0e52936#32, 0xa63f9ab5#32, 0xf2c5c374#32, 0x97a56b47#32],
  [0xbf91bbfa#32, 0x9fdc3af4#32, 0xb3cc36dd#32, 0xab906c99#32, 0x79bb3384#32, 0xe0e52936#32, 0xa63f9ab5#32, 0xf2c5c374#32],
  [0xf71a5bf3#32, 0xbf91bbfa#32, 0x9fdc3af4#32, 0xb3cc36dd#32, 0xabf01503#32, 0x79bb3384#32, 0xe0e52936#32, 0xa63f9ab5#32],
  [0x44d1aac5#32, 0xf71a5bf3#32, 0xbf91bbfa#32, 0x9fdc3af4#32, 0xedcec3be#32, 0xabf01503#32, 0x79bb3384#32, 0xe0e52936#32],
  [0xd41a01af#32, 0x44d1aac5#32, 0xf71a5bf3#32, 0xbf91bbfa#32, 0x3aaf2781#32, 0xedcec3be#32, 0xabf01503#32, 0x79bb3384#32]]
def tbText : List UInt8 := [98] ++ padL 1
theorem tb_first : ∀ n, n < 16 → bePart (fun k => fn tbText (64 * 0 + k)) n 4 = at8 tbPlan n := by decide +kernel
theorem tb_plan : ∀ k, k < 48 → at8 tbPlan (16 + k) = ss1 (at8 tbPlan (14 + k)) + at8 tbPlan (9 + k) + ss0 (at8 tbPlan (1 + k)) + at8 tbPlan k := by decide +kernel
theorem tb_steps : ∀ k, k < 64 → stepOk (salt k) (at8 tbPlan k) (tbStates.getD k []) (tbStates.getD (k + 1) []) = true := by decide +kernel
theorem tb_init : ∀ n, n < 8 → init n = at8 (tbStates.getD 0 []) n := by decide +kernel
theorem tb_words : ∀ n, n < 8 → hashed (fn tbText) 1 n = init n + at8 (tbStates.getD 64 []) n := by
  intro n hn
  have hp : ∀ k, k < 64 → plan (fun k => fn tbText (64 * 0 + k)) k = at8 tbPlan k := fun k hk => plan_of _ tbPlan tb_first tb_plan 48 (Nat.le_refl _) k (by omega)
  have hr := rounds_of (plan (fun k => fn tbText (64 * 0 + k))) init tbStates tb_init (fun k hk => by rw [hp k hk]; exact tb_steps k hk) 64 (Nat.le_refl _) n hn
  rw [hashed, mix, added, if_pos hn, hashed, hr]
theorem tb_len : ([98] ++ padL ([98] : List UInt8).length).length / 64 = 1 := by decide +kernel
theorem tb_sum : sha [98] = bstr 32 (outByte fun n => init n + at8 (tbStates.getD 64 []) n) := by
  rw [sha, tb_len, out]
  refine bstr_congr (fun k hk => ?_)
  have e := tb_words (k / 4) (by omega)
  unfold outByte
  rw [show hashed (fn ([98] ++ padL ([98] : List UInt8).length)) 1 (k / 4) = init (k / 4) + at8 (tbStates.getD 64 []) (k / 4) from e]
def tbSum : ByteArray := ⟨#[62, 35, 232, 22, 0, 57, 89, 74, 51, 137, 79, 101, 100, 225, 177, 52, 139, 189, 122, 0, 136, 212, 44, 74, 203, 115, 238, 174, 213, 156, 0, 157]⟩
theorem tb_is : sha [98] = tbSum := by
  rw [tb_sum]
  have e : (List.range 32).map (outByte fun n => init n + at8 (tbStates.getD 64 []) n) = tbSum.data.toList := by decide +kernel
  rw [bstr, e]
def tcPlan : List (BitVec 32) := [0x63800000#32, 0x00000000#32, 0x00000000#32, 0x00000000#32, 0x00000000#32, 0x00000000#32, 0x00000000#32, 0x00000000#32, 0x00000000#32, 0x00000000#32, 0x00000000#32, 0x00000000#32, 0x00000000#32, 0x00000000#32, 0x00000000#32, 0x00000008#32, 0x63800000#32, 0x00050000#32, 0x0018ddb0#32, 0x20000142#32, 0x756e0638#32, 0x00815400#32, 0xc3c66fa3#32, 0xe4002005#32, 0xfa1a6800#32, 0x14542c38#32, 0x993ee616#32, 0x090c23e3#32, 0xb0712401#32, 0x59561652#32, 0xaaaf1285#32, 0xd0c6b2ec#32, 0x230da1ff#32, 0x7fd2d3f8#32, 0xedfe404c#32, 0x03d6eb7a#32, 0x0be9d962#32, 0x181acc8a#32, 0x8b765ece#32, 0xcb975317#32, 0xd835ae04#32, 0xcdbe6d32#32, 0xcfd62a7f#32, 0x6c70f90c#32, 0xc2dcd4d9#32, 0x232af386#32, 0xd61042a5#32, 0x630fe7fb#32, 0x65fbc537#32, 0x733a2c8c#32, 0x43374a57#32, 0xcdb1a428#32, 0x1f983b25#32, 0xf098a7ef#32, 0xeb98471b#32, 0xf2012155#32, 0x5e244b51#32, 0x32ad197f#32, 0x7572c23a#32, 0x5a8e5bfb#32, 0xa17f28cc#32, 0x371efd76#32, 0x3cc23b47#32, 0xf585a471#32]
def tcStates : List (List (BitVec 32)) := [
  [0x6a09e667#32, 0xbb67ae85#32, 0x3c6ef372#32, 0xa54ff53a#32, 0x510e527f#32, 0x9b05688c#32, 0x1f83d9ab#32, 0x5be0cd19#32],
  [0x5f88884d#32, 0x6a09e667#32, 0xbb67ae85#32, 0x3c6ef372#32, 0xfc47e2a2#32, 0x510e527f#32, 0x9b05688c#32, 0x1f83d9ab#32],
  [0x92d4c7e0#32, 0x5f88884d#32, 0x6a09e667#32, 0xbb67ae85#32, 0x1c9021e4#32, 0xfc47e2a2#32, 0x510e527f#32, 0x9b05688c#32],
  [0x35ece31d#32, 0x92d4c7e0#32, 0x5f88884d#32, 0x6a09e667#32, 0x4e1da628#32, 0x1c9021e4#32, 0xfc47e2a2#32, 0x510e527f#32],
  [0x5fe4d695#32, 0x35ece31d#32, 0x92d4c7e0#32, 0x5f88884d#32, 0xcc031638#32, 0x4e1da628#32, 0x1c9021e4#32, 0xfc47e2a2#32],
  [0x3fc0c4d6#32, 0x5fe4d695#32, 0x35ece31d#32, 0x92d4c7e0#32, 0x175ae592#32, 0xcc031638#32, 0x4e1da628#32, 0x1c9021e4#32],
  [0x042ce22f#32, 0x3fc0c4d6#32, 0x5fe4d695#32, 0x35ece31d#32, 0xacca4bae#32, 0x175ae592#32, 0xcc031638#32, 0x4e1da628#32],
  [0x52cc5222#32, 0x042ce22f#32, 0x3fc0c4d6#32, 0x5fe4d695#32, 0x04d8c8ac#32, 0xacca4bae#32, 0x175ae592#32, 0xcc031638#32],
  [0xa4975ecb#32, 0x52cc5222#32, 0x042ce22f#32, 0x3fc0c4d6#32, 0xb8c66799#32, 0x04d8c8ac#32, 0xacca4bae#32, 0x175ae592#32],
  [0x31a2d62b#32, 0xa4975ecb#32, 0x52cc5222#32, 0x042ce22f#32, 0x2ad36b3c#32, 0xb8c66799#32, 0x04d8c8ac#32, 0xacca4bae#32],
  [0x11a3fea0#32, 0x31a2d62b#32, 0xa4975ecb#32, 0x52cc5222#32, 0xeee0f64a#32, 0x2ad36b3c#32, 0xb8c66799#32, 0x04d8c8ac#32],
  [0xa6a4fe4f#32, 0x11a3fea0#32, 0x31a2d62b#32, 0xa4975ecb#32, 0x493a7ed5#32, 0xeee0f64a#32, 0x2ad36b3c#32, 0xb8c66799#32],
  [0x4537332d#32, 0xa6a4fe4f#32, 0x11a3fea0#32, 0x31a2d62b#32, 0x2ffe5f9f#32, 0x493a7ed5#32, 0xeee0f64a#32, 0x2ad36b3c#32],
  [0xf1d5df3a#32, 0x4537332d#32, 0xa6a4fe4f#32, 0x11a3fea0#32, 0x08e566d2#32, 0x2ffe5f9f#32, 0x493a7ed5#32, 0xeee0f64a#32],
  [0x9323f8e8#32, 0xf1d5df3a#32, 0x4537332d#32, 0xa6a4fe4f#32, 0xac33e5b2#32, 0x08e566d2#32, 0x2ffe5f9f#32, 0x493a7ed5#32],
  [0x93c35568#32, 0x9323f8e8#32, 0xf1d5df3a#32, 0x4537332d#32, 0xfcc09326#32, 0xac33e5b2#32, 0x08e566d2#32, 0x2ffe5f9f#32],
  [0x53cb06a4#32, 0x93c35568#32, 0x9323f8e8#32, 0xf1d5df3a#32, 0x825c735a#32, 0xfcc09326#32, 0xac33e5b2#32, 0x08e566d2#32],
  [0xce5322dd#32, 0x53cb06a4#32, 0x93c35568#32, 0x9323f8e8#32, 0x1e9ade71#32, 0x825c735a#32, 0xfcc09326#32, 0xac33e5b2#32],
  [0xc33ad53e#32, 0xce5322dd#32, 0x53cb06a4#32, 0x93c35568#32, 0x58a9fa23#32, 0x1e9ade71#32, 0x825c735a#32, 0xfcc09326#32],
  [0xfb33ebe1#32, 0xc33ad53e#32, 0xce5322dd#32, 0x53cb06a4#32, 0xd92fe2f8#32, 0x58a9fa23#32, 0x1e9ade71#32, 0x825c735a#32],
  [0x0a52832c#32, 0xfb33ebe1#32, 0xc33ad53e#32, 0xce5322dd#32, 0xa47d0148#32, 0xd92fe2f8#32, 0x58a9fa23#32, 0x1e9ade71#32],
  [0xecd0f11c#32, 0x0a52832c#32, 0xfb33ebe1#32, 0xc33ad53e#32, 0x9df90e57#32, 0xa47d0148#32, 0xd92fe2f8#32, 0x58a9fa23#32],
  [0xaa8d312a#32, 0xecd0f11c#32, 0x0a52832c#32, 0xfb33ebe1#32, 0x935df9c9#32, 0x9df90e57#32, 0xa47d0148#32, 0xd92fe2f8#32],
  [0x22a760fe#32, 0xaa8d312a#32, 0xecd0f11c#32, 0x0a52832c#32, 0x5bd7e92a#32, 0x935df9c9#32, 0x9df90e57#32, 0xa47d0148#32],
  [0xbc25f0c4#32, 0x22a760fe#32, 0xaa8d312a#32, 0xecd0f11c#32, 0x0917cd24#32, 0x5bd7e92a#32, 0x935df9c9#32, 0x9df90e57#32],
  [0x748ab237#32, 0xbc25f0c4#32, 0x22a760fe#32, 0xaa8d312a#32, 0x77c6a277#32, 0x0917cd24#32, 0x5bd7e92a#32, 0x935df9c9#32],
  [0x64565580#32, 0x748ab237#32, 0xbc25f0c4#32, 0x22a760fe#32, 0x73e9c0aa#32, 0x77c6a277#32, 0x0917cd24#32, 0x5bd7e92a#32],
  [0xc999b9f8#32, 0x64565580#32, 0x748ab237#32, 0xbc25f0c4#32, 0x8bf9742f#32, 0x73e9c0aa#32, 0x77c6a277#32, 0x0917cd24#32],
  [0x10b433c8#32, 0xc999b9f8#32, 0x64565580#32, 0x748ab237#32, 0xccf7b147#32, 0x8bf9742f#32, 0x73e9c0aa#32, 0x77c6a277#32],
  [0x825b01c8#32, 0x10b433c8#32, 0xc999b9f8#32, 0x64565580#32, 0x6baed926#32, 0xccf7b147#32, 0x8bf9742f#32, 0x73e9c0aa#32],
  [0x995d9d47#32, 0x825b01c8#32, 0x10b433c8#32, 0xc999b9f8#32, 0x3a44d05c#32, 0x6baed926#32, 0xccf7b147#32, 0x8bf9742f#32],
  [0x8fad1672#32, 0x995d9d47#32, 0x825b01c8#32, 0x10b433c8#32, 0x4ecb0aca#32, 0x3a44d05c#32, 0x6baed926#32, 0xccf7b147#32],
  [0x22c7f77f#32, 0x8fad1672#32, 0x995d9d47#32, 0x825b01c8#32, 0x03f8233b#32, 0x4ecb0aca#32, 0x3a44d05c#32, 0x6baed926#32],
  [0x612108e3#32, 0x22c7f77f#32, 0x8fad1672#32, 0x995d9d47#32, 0xeb195bc9#32, 0x03f8233b#32, 0x4ecb0aca#32, 0x3a44d05c#32],
  [0x015f886f#32, 0x612108e3#32, 0x22c7f77f#32, 0x8fad1672#32, 0x5ba7488f#32, 0xeb195bc9#32, 0x03f8233b#32, 0x4ecb0aca#32],
  [0xf2c6b082#32, 0x015f886f#32, 0x612108e3#32, 0x22c7f77f#32, 0x641de9a3#32, 0x5ba7488f#32, 0xeb195bc9#32, 0x03f8233b#32],
  [0x60c056fd#32, 0xf2c6b082#32, 0x015f886f#32, 0x612108e3#32, 0xffdc93bb#32, 0x641de9a3#32, 0x5ba7488f#32, 0xeb195bc9#32],
  [0x865e3d76#32, 0x60c056fd#32, 0xf2c6b082#32, 0x015f886f#32, 0x9837cf2c#32, 0xffdc93bb#32, 0x641de9a3#32, 0x5ba7488f#32],
  [0x47f9afb3#32, 0x865e3d76#32, 0x60c056fd#32, 0xf2c6b082#32, 0x33bc9b77#32, 0x9837cf2c#32, 0xffdc93bb#32, 0x641de9a3#32],
  [0x4be3b4e7#32, 0x47f9afb3#32, 0x865e3d76#32, 0x60c056fd#32, 0xacf78c34#32, 0x33bc9b77#32, 0x9837cf2c#32, 0xffdc93bb#32],
  [0x0188262c#32, 0x4be3b4e7#32, 0x47f9afb3#32, 0x865e3d76#32, 0x1f3b9027#32, 0xacf78c34#32, 0x33bc9b77#32, 0x9837cf2c#32],
  [0x9ac06875#32, 0x0188262c#32, 0x4be3b4e7#32, 0x47f9afb3#32, 0xcb9a4978#32, 0x1f3b9027#32, 0xacf78c34#32, 0x33bc9b77#32],
  [0x0aa5d7fb#32, 0x9ac06875#32, 0x0188262c#32, 0x4be3b4e7#32, 0x222248d4#32, 0xcb9a4978#32, 0x1f3b9027#32, 0xacf78c34#32],
  [0xae0cf588#32, 0x0aa5d7fb#32, 0x9ac06875#32, 0x0188262c#32, 0x054176f8#32, 0x222248d4#32, 0xcb9a4978#32, 0x1f3b9027#32],
  [0xfbf75c53#32, 0xae0cf588#32, 0x0aa5d7fb#32, 0x9ac06875#32, 0xbeea1cc9#32, 0x054176f8#32, 0x222248d4#32, 0xcb9a4978#32],
  [0x9ac58a51#32, 0xfbf75c53#32, 0xae0cf588#32, 0x0aa5d7fb#32, 0xc9ccd5aa#32, 0xbeea1cc9#32, 0x054176f8#32, 0x222248d4#32],
  [0x7d9f2822#32, 0x9ac58a51#32, 0xfbf75c53#32, 0xae0cf588#32, 0xab6a30f9#32, 0xc9ccd5aa#32, 0xbeea1cc9#32, 0x054176f8#32],
  [0x58547c74#32, 0x7d9f2822#32, 0x9ac58a51#32, 0xfbf75c53#32, 0x67b5baa2#32, 0xab6a30f9#32, 0xc9ccd5aa#32, 0xbeea1cc9#32],
  [0xe1f7c199#32, 0x58547c74#32, 0x7d9f2822#32, 0x9ac58a51#32, 0xe0d3e89d#32, 0x67b5baa2#32, 0xab6a30f9#32, 0xc9ccd5aa#32],
  [0xe87e3095#32, 0xe1f7c199#32, 0x58547c74#32, 0x7d9f2822#32, 0x5db7ba57#32, 0xe0d3e89d#32, 0x67b5baa2#32, 0xab6a30f9#32],
  [0x5a98befc#32, 0xe87e3095#32, 0xe1f7c199#32, 0x58547c74#32, 0xe94ede14#32, 0x5db7ba57#32, 0xe0d3e89d#32, 0x67b5baa2#32],
  [0xbee20a66#32, 0x5a98befc#32, 0xe87e3095#32, 0xe1f7c199#32, 0xaa78cc2d#32, 0xe94ede14#32, 0x5db7ba57#32, 0xe0d3e89d#32],
  [0x60202d32#32, 0xbee20a66#32, 0x5a98befc#32, 0xe87e3095#32, 0xd278c465#32, 0xaa78cc2d#32, 0xe94ede14#32, 0x5db7ba57#32],
  [0x754c7187#32, 0x60202d32#32, 0xbee20a66#32, 0x5a98befc#32, 0x71faafd9#32, 0xd278c465#32, 0xaa78cc2d#32, 0xe94ede14#32],
  [0x3c060301#32, 0x754c7187#32, 0x60202d32#32, 0xbee20a66#32, 0xc18fed00#32, 0x71faafd9#32, 0xd278c465#32, 0xaa78cc2d#32],
  [0x6d999e28#32, 0x3c060301#32, 0x754c7187#32, 0x60202d32#32, 0x6973238b#32, 0xc18fed00#32, 0x71faafd9#32, 0xd278c465#32],
  [0x6cf6e84c#32, 0x6d999e28#32, 0x3c060301#32, 0x754c7187#32, 0xc3ad578d#32, 0x6973238b#32, 0xc18fed00#32, 0x71faafd9#32],
  [0x8585a5d5#32, 0x6cf6e84c#32, 0x6d999e28#32, 0x3c060301#32, 0x0b3ba13d#32, 0xc3ad578d#32, 0x6973238b#32, 0xc18fed00#32],
  [0xe598448c#32, 0x8585a5d5#32, 0x6cf6e84c#32, 0x6d999e28#32, 0x5aae87f3#32, 0x0b3ba13d#32, 0xc3ad578d#32, 0x6973238b#32],
  [0xb4c438bb#32, 0xe598448c#32, 0x8585a5d5#32, 0x6cf6e84c#32, 0xc0b5e3a0#32, 0x5aae87f3#32, 0x0b3ba13d#32, 0xc3ad578d#32],
  [0x822eb618#32, 0xb4c438bb#32, 0xe598448c#32, 0x8585a5d5#32, 0x119332eb#32, 0xc0b5e3a0#32, 0x5aae87f3#32, 0x0b3ba13d#32],
  [0x9018906b#32, 0x822eb618#32, 0xb4c438bb#32, 0xe598448c#32, 0x467a22ad#32, 0x119332eb#32, 0xc0b5e3a0#32, 0x5aae87f3#32],
  [0x297e0243#32, 0x9018906b#32, 0x822eb618#32, 0xb4c438bb#32, 0x79ee8bf6#32, 0x467a22ad#32, 0x119332eb#32, 0xc0b5e3a0#32],
  [0xede8cc5d#32, 0x297e0243#32, 0x9018906b#32, 0x822eb618#32, 0x021eab08#32, 0x79ee8bf6#32, 0x467a22ad#32, 0x119332eb#32],
  [0xc473459c#32, 0xede8cc5d#32, 0x297e0243#32, 0x9018906b#32, 0xe2854f83#32, 0x021eab08#32, 0x79ee8bf6#32, 0x467a22ad#32]]
def tcText : List UInt8 := [99] ++ padL 1
theorem tc_first : ∀ n, n < 16 → bePart (fun k => fn tcText (64 * 0 + k)) n 4 = at8 tcPlan n := by decide +kernel
theorem tc_plan : ∀ k, k < 48 → at8 tcPlan (16 + k) = ss1 (at8 tcPlan (14 + k)) + at8 tcPlan (9 + k) + ss0 (at8 tcPlan (1 + k)) + at8 tcPlan k := by decide +kernel
theorem tc_steps : ∀ k, k < 64 → stepOk (salt k) (at8 tcPlan k) (tcStates.getD k []) (tcStates.getD (k + 1) []) = true := by decide +kernel
theorem tc_init : ∀ n, n < 8 → init n = at8 (tcStates.getD 0 []) n := by decide +kernel
theorem tc_words : ∀ n, n < 8 → hashed (fn tcText) 1 n = init n + at8 (tcStates.getD 64 []) n := by
  intro n hn
  have hp : ∀ k, k < 64 → plan (fun k => fn tcText (64 * 0 + k)) k = at8 tcPlan k := fun k hk => plan_of _ tcPlan tc_first tc_plan 48 (Nat.le_refl _) k (by omega)
  have hr := rounds_of (plan (fun k => fn tcText (64 * 0 + k))) init tcStates tc_init (fun k hk => by rw [hp k hk]; exact tc_steps k hk) 64 (Nat.le_refl _) n hn
  rw [hashed, mix, added, if_pos hn, hashed, hr]
theorem tc_len : ([99] ++ padL ([99] : List UInt8).length).length / 64 = 1 := by decide +kernel
theorem tc_sum : sha [99] = bstr 32 (outByte fun n => init n + at8 (tcStates.getD 64 []) n) := by
  rw [sha, tc_len, out]
  refine bstr_congr (fun k hk => ?_)
  have e := tc_words (k / 4) (by omega)
  unfold outByte
  rw [show hashed (fn ([99] ++ padL ([99] : List UInt8).length)) 1 (k / 4) = init (k / 4) + at8 (tcStates.getD 64 []) (k / 4) from e]
def tcSum : ByteArray := ⟨#[46, 125, 44, 3, 169, 80, 122, 226, 101, 236, 245, 181, 53, 104, 133, 165, 51, 147, 162, 2, 157, 36, 19, 148, 153, 114, 101, 161, 162, 90, 239, 198]⟩
theorem tc_is : sha [99] = tcSum := by
  rw [tc_sum]
  have e : (List.range 32).map (outByte fun n => init n + at8 (tcStates.getD 64 []) n) = tcSum.data.toList := by decide +kernel
  rw [bstr, e]
end Sha
end Go.Proofs.YtllpfpbpdgpnkaaDoor.Sa
