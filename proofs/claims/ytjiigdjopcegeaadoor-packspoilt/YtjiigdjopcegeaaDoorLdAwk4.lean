/- A text pressed and spread again; the waking test. -/
import Derived.Test.YtjiigdjopcegeaaDoorLdSpread
namespace Go.Proofs.YtjiigdjopcegeaaDoor.Ld
open Cb
open Go.RowKit
namespace Lz
theorem tell_len (s : List UInt8) (told i : Nat) (hn : s.length ≤ 1048576) (h1 : told ≤ i) (h2 : i ≤ s.length) : (tell s told i).length ≤ 4 * (s.length - told) + 4 := by
  by_cases h : i < s.length
  · by_cases hb : back s i = 0
    · rw [tell_next h hb]
      exact tell_len s told (i + 1) hn (by omega) (by omega)
    · have hk := back_some hb
      have hr := run_le hb
      have h4 : 4 ≤ run s i := by unfold run; omega
      have ih := tell_len s (i + run s i) (i + run s i) hn (Nat.le_refl _) hr
      have a1 := numL_small (i - told) (by omega)
      have a2 := numL_small (back s i) (by omega)
      have a3 := numL_small (run s i - 4) (by omega)
      rw [tell_rep h hb]
      simp only [List.length_append, List.length_take, List.length_drop]
      omega
  · rw [tell_end h]
    split
    · have a1 := numL_small (s.length - told) (by omega)
      simp only [List.length_append, List.length_drop]
      omega
    · simp
  termination_by s.length - i
  decreasing_by all_goals omega
theorem press_len (s : List UInt8) (hn : s.length ≤ 1048576) : (press s).length ≤ 5000000 := by
  have a1 := numL_small s.length (by omega)
  have a2 := tell_len s 0 0 hn (Nat.le_refl _) (by omega)
  rw [press, List.length_append]
  omega
theorem numL_tiny {n : Nat} (h : n < 128) : Cd.numL n = [UInt8.ofNat n] := by
  rw [Cd.numL, Cd.numR, Cd.more_small h, Nat.mod_eq_of_lt h]
  rfl
theorem press16 : press (List.replicate 16 97) = [16, 1, 97, 1, 11] := by
  have b0 : back (List.replicate 16 97) 0 = 0 := by decide +kernel
  have b1 : back (List.replicate 16 97) 1 = 1 := by decide +kernel
  have r1 : run (List.replicate 16 97) 1 = 15 := by decide +kernel
  rw [press, tell_next (by decide) b0, tell_rep (by decide) (by rw [b1]; omega), b1, r1, tell_end (by decide), if_neg (by decide), List.length_replicate, numL_tiny (by omega), numL_tiny (by omega), numL_tiny (by omega)]
  decide +kernel
end Lz
theorem spread_again (L : List UInt8) (p : ByteArray) (most : Int) (w : World) (hp : bs (Lz.press L) = p) (hL : L.length ≤ 1048576) (hm : (L.length : Int) ≤ most) :
    Calls Tryd.prog 54 #[.string p, .int .i64 most] w fun e w' => e = .returned (.tuple #[.string (bs L), .int .i64 0]) ∧ Below w.heap.size w w' := by
  refine spread_ok L (Lz.tell L 0 0) p most w (by rw [← hp, bs_list]; rfl) (Lz.tell_spr L 0 0 (Nat.le_refl _) (by omega)) hL hm ?_
  have := Lz.press_len L hL
  rw [← hp, bs_size]
  omega
end Go.Proofs.YtjiigdjopcegeaaDoor.Ld
