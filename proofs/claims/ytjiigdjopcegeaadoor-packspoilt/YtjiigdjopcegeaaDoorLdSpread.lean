/- Bytes that tell a text are spread to it. -/
import Derived.Test.YtjiigdjopcegeaaDoorLdSpq
namespace Go.Proofs.YtjiigdjopcegeaaDoor.Ld
open Cb
open Go.RowKit
theorem spread_ok (S R : List UInt8) (p : ByteArray) (most : Int) (w : World) (hp : p.data.toList = Cd.numL S.length ++ R) (hspr : Lz.Spr S 0 R) (hS : S.length ≤ 1048576) (hm : (S.length : Int) ≤ most) (hps : p.size ≤ 100000000) :
    Calls Tryd.prog 54 #[.string p, .int .i64 most] w fun e w' => e = .returned (.tuple #[.string (bs S), .int .i64 0]) ∧ Below w.heap.size w w' := by
  have := spread_gen p.data.toList most w (by rw [str_len]; exact hps)
  rw [bs_data] at this
  have e : Lz.spP p.data.toList most = (0, S) := by
    unfold Lz.spP Lz.spA
    rw [hp, Lz.nm_num _ _ _ (by omega) (by omega)]
    simp only
    rw [if_neg (by simp), if_neg (by omega)]
    exact Lz.spr_spF S hS _ 0 _ (Nat.zero_le _) (by omega) hspr
  rw [e] at this
  exact this
end Go.Proofs.YtjiigdjopcegeaaDoor.Ld
