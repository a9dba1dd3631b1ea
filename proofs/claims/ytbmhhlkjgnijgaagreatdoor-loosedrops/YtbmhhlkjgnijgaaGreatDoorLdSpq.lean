/- What is pressed is spread again: plain. -/
import Derived.Test.YtbmhhlkjgnijgaaGreatDoorLdSpd
namespace Go.Proofs.YtbmhhlkjgnijgaaGreatDoor.Ld
open Cb
namespace Lz
theorem nm_num (most : Int) (n : Nat) (R : List UInt8) (h : (n : Int) ≤ most) (hn : n < 9223372036854775808) : nm most (Cd.numL n ++ R) = (n, R, 0) := by
  have hu := Cd.unnum_num n hn R
  have := nm_mk (most := most) (L := Cd.numL n ++ R) (n := n) (by rw [hu]) (by rw [hu]) h
  rw [this, hu]
  simp
theorem rep_take (s : List UInt8) (i b : Nat) (hb1 : 1 ≤ b) (hb2 : b ≤ i) : ∀ (n : Nat), i + n ≤ s.length → (∀ k, k < n → s[i + k - b]? = s[i + k]?) → rep b n (s.take i) = s.take (i + n)
  | 0, _, _ => rfl
  | n + 1, hn, hk => by
    have ih := rep_take s i b hb1 hb2 n (by omega) (fun k h => hk k (by omega))
    have hl : (s.take (i + n)).length = i + n := by rw [List.length_take]; omega
    rw [rep, ih, hl]
    have h1 := hk n (by omega)
    have hlt : i + n < s.length := by omega
    have e1 : s[i + n]? = some (s[i + n]'hlt) := by simp
    rw [e1] at h1
    have e2 : (s.take (i + n)).getD (i + n - b) 0 = s[i + n]'hlt := by
      rw [List.getD, List.getElem?_take, if_pos (by omega), h1]
      rfl
    rw [e2, show i + (n + 1) = i + n + 1 by omega, List.take_succ_eq_append_getElem hlt]
theorem spr_spF (s : List UInt8) (hs : s.length ≤ 1048576) : ∀ (f a : Nat) (R : List UInt8), a ≤ s.length → s.length - a < f → Spr s a R → spF aga s.length f (s.take a) R = (0, s)
  | 0, _, _, _, hf, _ => by omega
  | f + 1, a, R, ha, hf, h => by
    have hal : (s.take a).length = a := by rw [List.length_take]; omega
    rw [spF, hal]
    cases h with
    | done => rw [if_neg (by omega), fin, if_pos rfl, List.take_length]
    | lone a hlt =>
      rw [if_pos hlt]
      have e : alo (s.length - a) (s.take a) (Cd.numL (s.length - a) ++ s.drop a) = (0, s, []) := by
        unfold alo
        rw [nm_num _ _ _ (by omega) (by omega)]
        simp only
        rw [if_neg (by simp), if_neg (by simp)]
        have e1 : (s.drop a).take (s.length - a) = s.drop a := List.take_of_length_le (by simp)
        have e2 : (s.drop a).drop (s.length - a) = [] := List.drop_of_length_le (by simp)
        rw [e1, e2, List.take_append_drop]
      rw [e]
      simp only
      rw [if_neg (by simp), if_pos trivial, fin, if_pos rfl]
    | rep a i b n r h1 h2 h3 h4 h5 h6 h7 h8 =>
      have hlt : a < s.length := by omega
      rw [if_pos hlt]
      have hM : ((s.drop a).take (i - a)).length = i - a := by rw [List.length_take, List.length_drop]; omega
      have e : alo (s.length - a) (s.take a) (Cd.numL (i - a) ++ (s.drop a).take (i - a) ++ Cd.numL b ++ Cd.numL (n - 4) ++ r) = (0, s.take i, Cd.numL b ++ (Cd.numL (n - 4) ++ r)) := by
        unfold alo
        have hre : Cd.numL (i - a) ++ (s.drop a).take (i - a) ++ Cd.numL b ++ Cd.numL (n - 4) ++ r = Cd.numL (i - a) ++ ((s.drop a).take (i - a) ++ (Cd.numL b ++ (Cd.numL (n - 4) ++ r))) := by simp only [List.append_assoc]
        rw [hre, nm_num _ _ _ (by omega) (by omega)]
        simp only
        rw [if_neg (by simp), if_neg (by rw [List.length_append, hM]; omega)]
        have e1 : ((s.drop a).take (i - a) ++ (Cd.numL b ++ (Cd.numL (n - 4) ++ r))).take (i - a) = (s.drop a).take (i - a) := by
          rw [List.take_append_of_le_length (by omega), List.take_of_length_le (by omega)]
        have e2 : ((s.drop a).take (i - a) ++ (Cd.numL b ++ (Cd.numL (n - 4) ++ r))).drop (i - a) = Cd.numL b ++ (Cd.numL (n - 4) ++ r) := by
          rw [List.drop_append_of_le_length (by omega), List.drop_of_length_le (by omega), List.nil_append]
        rw [e1, e2, ← List.take_add, show a + (i - a) = i by omega]
      rw [e]
      simp only
      have hil : (s.take i).length = i := by rw [List.length_take]; omega
      have ea : aga (s.length - i) (s.take i) (Cd.numL b ++ (Cd.numL (n - 4) ++ r)) = (0, s.take (i + n), r) := by
        unfold aga
        rw [hil, (nm_nq (nm_num (b : Int) b _ (by omega) (by omega))).1]
        simp only
        rw [(nm_nq (nm_num ((n - 4 : Nat) : Int) (n - 4) _ (by omega) (by omega))).1]
        simp only
        rw [if_neg (by simp), if_neg (by simp), if_neg (by omega), if_neg (by omega), show n - 4 + 4 = n by omega, rep_take s i b h2 h3 n h6 h7]
      rw [if_neg (by simp), hil, if_neg (by omega), ea]
      simp only
      rw [if_neg (by simp)]
      exact spr_spF s hs f (i + n) r h6 (by omega) h8
/-- What is pressed is spread again. -/
theorem sp_press (s : List UInt8) (most : Int) (hs : s.length ≤ 1048576) (hm : (s.length : Int) ≤ most) : spP (press s) most = (0, s) := by
  unfold spP spA press
  rw [nm_num _ _ _ (by omega) (by omega)]
  simp only
  rw [if_neg (by simp), if_neg (by omega)]
  exact spr_spF s hs _ 0 _ (Nat.zero_le _) (by omega) (tell_spr s 0 0 (Nat.le_refl _) (Nat.zero_le _))
end Lz
end Go.Proofs.YtbmhhlkjgnijgaaGreatDoor.Ld
