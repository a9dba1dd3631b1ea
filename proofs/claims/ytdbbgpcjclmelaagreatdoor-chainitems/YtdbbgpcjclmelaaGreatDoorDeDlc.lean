/- The document's look for a block, and what it puts: walked. -/
import Derived.Test.YtdbbgpcjclmelaaGreatDoorDeDlb
import Derived.Test.YtdbbgpcjclmelaaGreatDoorCbRefm
namespace Go.Proofs.YtdbbgpcjclmelaaGreatDoor.De
open Cb
open Go.RowKit
theorem numL_four (n : Nat) (h : n < 128 ^ 4) : (Cd.numL n).length ≤ 5 := by
  have h2 := Cd.more_len 3 n h
  simp [Cd.numL, Cd.numR]
  omega
/-- A place as the document tells it. -/
def plc : Option Nat → Int
  | none => -1
  | some k => (k : Int)
set_option maxHeartbeats 800000 in
set_option maxRecDepth 100000 in
theorem refblock_any (B b : List UInt8) (w : World) (hB : B.length ≤ 100000000) :
    Calls Tryz.prog 38 #[.string (bs B), .string (bs b)] w fun e w' => e = .returned (.int .i64 (plc (Dl.blk B b))) ∧ Below w.heap.size w w' := by
  obtain ⟨BB, hBB⟩ : ∃ S, bs B = S := ⟨_, rfl⟩
  obtain ⟨bb, hbb⟩ : ∃ S, bs b = S := ⟨_, rfl⟩
  obtain ⟨n, hn⟩ : ∃ n, B.length = n := ⟨_, rfl⟩
  have bz := bsz hBB
  have bI : (BB.size : Int) = (n : Int) := by omega
  have nI : (n : Int) ≤ 100000000 := by omega
  obtain ⟨P, hP⟩ : ∃ P, Dl.blk B b = P := ⟨_, rfl⟩
  have HP : Hid (P = Dl.blkF B b (n + 1) 0) := hideIt (by rw [← hP, ← hn]; rfl)
  have HBB := hideIt (And.intro hBB hbb)
  have HN := hideIt hn
  have HS : Hid (BB.size = n) := hideIt (by omega)
  rw [hBB, hbb, hP]
  clear hBB hbb hn bz hP hB
  go_enter Tryz.func38, Tryz.ntmps38
  go_wp2
  go_loopw [5] (fun t wr => ∃ (f k : Nat), t = .int .i64 k ∧ k ≤ n ∧ n - k < f ∧ P = Dl.blkF B b f k ∧ Below w.heap.size w wr) (fun t _ => n - (intOf t).toNat)
  case atStart => exact ⟨n + 1, 0, rfl, by omega, by omega, HP.out, Below.refl _ _⟩
  case round =>
    obtain ⟨f, k, rfl, hk, hf, hA, hr⟩ := hrel
    have HR0 := hideIt hr
    obtain ⟨f', rfl⟩ : ∃ f', f = f' + 1 := ⟨f - 1, by omega⟩
    rw [Dl.blkF, HN.out] at hA
    clear hr HP
    obtain ⟨k4, hk4⟩ : ∃ k4, k + 16 = k4 := ⟨_, rfl⟩
    have k1 : (k : Int) + 16 = (k4 : Int) := by omega
    have kI : (k4 : Int) ≤ 100000016 := by omega
    have k3 : (k : Int) ≤ (k4 : Int) := by omega
    rw [hk4] at hA
    have HK4 := hideIt hk4
    by_cases hle : k4 ≤ n
    · rw [if_pos hle] at hA
      have c1 : (k4 : Int) ≤ (n : Int) := by omega
      have e1 : (BB.extract k k4).data.toList = Dl.six B k := by rw [← HBB.out.1, bs_cut, bs_list, ← hk4, Nat.add_sub_cancel_left]; rfl
      obtain ⟨F, hF⟩ : ∃ F, BB.extract k k4 = F := ⟨_, rfl⟩
      rw [hF] at e1
      have e2 : bb.data.toList = b := by rw [← HBB.out.2, bs_list]
      by_cases hf6 : Dl.six B k = b
      · rw [if_pos hf6] at hA
        have q1 : (F.toList == bb.toList) = true := by rw [ByteArray.toList_eq, ByteArray.toList_eq, e1, e2, hf6]; simp
        have HA := hideIt hA
        clear hA e1 e2 hf6 hk4 hf hk
        go_wp2
        go_ret
        exact ⟨by rw [HA.out]; rfl, HR0.out⟩
      · rw [if_neg hf6] at hA
        have q1 : (F.toList == bb.toList) = false := by rw [ByteArray.toList_eq, ByteArray.toList_eq, e1, e2]; exact beq_eq_false_iff_ne.2 hf6
        have q2 : ¬ F.toList = bb.toList := beq_eq_false_iff_ne.1 q1
        have HA := hideIt hA
        have HF : Hid (n - k4 < f') := hideIt (by omega)
        clear hA e1 e2 hf6 hk4 hf hk
        go_wp2
        go_roundw
        case rel => exact ⟨f', k4, rfl, by omega, HF.out, HA.out, HR0.out⟩
        case measure => have := HK4.out; simp [intOf]; omega
    · rw [if_neg hle] at hA
      have c1 : ¬ (k4 : Int) ≤ (n : Int) := by omega
      have HA := hideIt hA
      clear hA hk4 hf hk
      go_wp2
      go_ret
      exact ⟨by rw [HA.out]; rfl, HR0.out⟩
set_option maxHeartbeats 800000 in
set_option maxRecDepth 100000 in
theorem refput_any (L : List UInt8) (w : World) (hL : L.length ≤ 100000000) :
    Calls Tryz.prog 39 #[.string (bs L)] w fun e w' => e = .returned (.string (bs (Dl.putL L))) ∧ Below w.heap.size w w' := by
  have hnil := bs_nilD L
  unfold Dl.putL
  by_cases h0 : L = []
  · rw [if_pos h0]
    rw [decide_eq_true h0] at hnil
    subst h0
    go_enter Tryz.func39, Tryz.ntmps39
    go_wp2
    go_ret
    exact ⟨rfl, Below.refl _ _⟩
  · rw [if_neg h0]
    rw [decide_eq_false h0] at hnil
    have hpos : 1 ≤ L.length := by
      cases L with
      | nil => exact absurd rfl h0
      | cons a t => simp
    obtain ⟨n, hn⟩ : ∃ n, L.length = n := ⟨_, rfl⟩
    obtain ⟨m, hm⟩ : ∃ m, 2 * n - 2 = m := ⟨_, rfl⟩
    obtain ⟨n2, hn2⟩ : ∃ m, 2 * n = m := ⟨_, rfl⟩
    have HNU := hideIt (refnum_any m w (by omega))
    rw [hn, hm]
    have hsz := numL_four m (by omega)
    obtain ⟨A, hA⟩ : ∃ S, bs (Cd.numL m) = S := ⟨_, rfl⟩
    obtain ⟨LL, hLL⟩ : ∃ S, bs L = S := ⟨_, rfl⟩
    have az := bsz hA
    have lz := bsz hLL
    have lI : (LL.size : Int) = (n : Int) := by omega
    have m1 : (2 : Int) * (n : Int) = (n2 : Int) := by omega
    have m2 : (n2 : Int) - 2 = (m : Int) := by omega
    have m3 : (n2 : Int) ≤ 200000000 := by omega
    have m4 : (m : Int) ≤ 200000000 := by omega
    have t1 : ¬ 9223372036854775807 < A.size + LL.size := by omega
    have hne : ¬ LL.toList = [] := by rw [← hLL]; exact beq_eq_false_iff_ne.1 hnil
    have HE : Hid (bs (Cd.numL m ++ L) = A ++ LL) := hideIt (by rw [← bs_catD, hA, hLL])
    rw [hA] at HNU
    rw [hLL] at hnil ⊢
    rw [HE.out]
    clear hA hLL az lz hm hn2 hn HE h0 hpos hL hsz
    go_enter Tryz.func39, Tryz.ntmps39
    go_wp2_with (first | (go_at_call 37; refine HNU.out.mono ?_; rintro e w1 ⟨rfl, hb1⟩))
    go_ret
    exact ⟨rfl, hb1⟩
end Go.Proofs.YtdbbgpcjclmelaaGreatDoor.De
