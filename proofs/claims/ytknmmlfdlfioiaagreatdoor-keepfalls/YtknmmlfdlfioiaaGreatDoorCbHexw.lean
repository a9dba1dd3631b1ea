/- Bytes as digits, walked. -/
import Derived.Test.YtknmmlfdlfioiaaGreatDoorCbOwn
namespace Go.Proofs.YtknmmlfdlfioiaaGreatDoor.Cb
open Go.RowKit
theorem and15 : ∀ b : Fin 256, bits .and .u8 (b.val : Int) 15 = ((b.val % 16 : Nat) : Int) := by decide +kernel
theorem and15' (x : UInt8) : bits .and .u8 (x.toNat : Int) 15 = ((x.toNat % 16 : Nat) : Int) := and15 ⟨x.toNat, x.toNat_lt⟩
def hexes : ByteArray := { data := #[48, 49, 50, 51, 52, 53, 54, 55, 56, 57, 97, 98, 99, 100, 101, 102] }
theorem hexes_at : ∀ j : Fin 16, (hexes.data.toList.getD j.val 0) = Cd.dig j.val := by decide
theorem hexAt (m : Int) (k : Nat) (h : m = (k : Int)) (hk : k < 16) (hp : m.toNat < hexes.size) : Value.int .u8 ((hexes[m.toNat]'hp).toNat : Int) = .int .u8 ((Cd.dig k).toNat : Int) := by
  subst h
  have := hexes_at ⟨k, hk⟩
  rw [← this, List.getD, List.getElem?_eq_getElem (by rw [str_len]; exact hp)]
  rfl
theorem two_cells (w : World) (x y : UInt8) (X Y : Value) (hx : X = .int .u8 (x.toNat : Int)) (hy : Y = .int .u8 (y.toNat : Int)) (j : Nat) (u : Value) (h : (u8s [x, y])[j]? = some u) :
    (w.alloc (.cells #[X, Y] 5)).cell? ((⟨w.heap.size, 0, none⟩ : Addr).add j) = some u := by
  subst hx hy
  rw [Addr.add_lit, Nat.zero_add, World.cell?_alloc_at _ _ _ _ rfl]
  match j, h with
  | 0, h => simpa [u8s] using h
  | 1, h => simpa [u8s] using h
theorem hexL_take (l : List UInt8) (k : Nat) (h : k < l.length) : Cd.hexL (l.take (k + 1)) = Cd.hexL (l.take k) ++ [Cd.dig ((l[k]).toNat / 16), Cd.dig ((l[k]).toNat % 16)] := by
  rw [List.take_succ_eq_append_getElem h, Cd.hexL_append]
  rfl
theorem hex_step {s : ByteArray} {w wr w2 : World} {o : Obj} {k : Nat} {v v' : Value} (a3 : k < s.size) (hown : wr.ownsRow w.heap.size 5 1 v (2 * k) (u8s (Cd.hexL (s.data.toList.take k)))) (hb : Below w.heap.size w wr)
    (h2 : w2.ownsRow w.heap.size 5 1 v' (2 * k + 2) (u8s (Cd.hexL (s.data.toList.take k)) ++ u8s [Cd.dig (s[k].toNat / 16), Cd.dig (s[k].toNat % 16)])) (hg : (wr.alloc o).drew.grownBy w2 v.ownBlock) :
    w2.ownsRow w.heap.size 5 1 v' (2 * (k + 1)) (u8s (Cd.hexL (s.data.toList.take (k + 1)))) ∧ Below w.heap.size w w2 := by
  have hl : k < s.data.toList.length := by rw [str_len]; exact a3
  refine ⟨?_, ((hb.alloc hb.size o).drew).grown hg (by have := hb.size; simp; omega) (own_ge hown)⟩
  rw [hexL_take _ _ hl, u8s_append]
  exact h2
set_option maxHeartbeats 800000 in
set_option maxRecDepth 100000 in
theorem hex_any (s : ByteArray) (w : World) (hs : s.size ≤ 400) :
    Calls Tryz.prog 38 #[.string s] w fun e w' => e = .returned (.string (bs (Cd.hexL s.data.toList))) ∧ Below w.heap.size w w' := by
  obtain ⟨n, hn⟩ : ∃ n, s.size = n := ⟨_, rfl⟩
  have hni : (s.size : Int) = (n : Int) := by rw [hn]
  obtain ⟨i0, hi0, hz0, hz1, hz2⟩ := info_parts infoB
  go_enter Tryz.func38, Tryz.ntmps38
  go_wp2_with (first | (refine wpList_make_own _ rfl _ _ 86 rfl w.heap.size 5 i0 (.int .u8 0) 1 Tryz.underlying86 hi0 hz0 hz1 _ _ _ (2 * n) rfl rfl (by omega) (by rw [hz2]; omega) (by unfold maxLen; omega) (Nat.le_refl _) ?_; intro w1 hown1 hg1))
  go_loopw [3, 11] (fun v t wr => ∃ k : Nat, k ≤ n ∧ t = .int .i64 k ∧ wr.ownsRow w.heap.size 5 1 v (2 * k) (u8s (Cd.hexL (s.data.toList.take k))) ∧ Below w.heap.size w wr) (fun _ t _ => n - (intOf t).toNat)
  case atStart => exact ⟨0, by omega, rfl, hown1, (Below.refl _ _).grown hg1 (Nat.le_refl _) (by simp)⟩
  case round =>
    obtain ⟨k, hk, rfl, hown, hb⟩ := hrel
    by_cases hlt : k < n
    · have hid : decide ((k : Int) < (n : Int)) = true := by simp; omega
      have a1 : (0 : Int) ≤ (k : Int) := by omega
      have a2 : (k : Int) < (s.size : Int) := by omega
      have a3 : k < s.size := by omega
      have hbl := s[k].toNat_lt
      have d1 : (0 : Int) ≤ ((s[k].toNat : Nat) : Int) / 16 := by omega
      have d2 : ((s[k].toNat : Nat) : Int) / 16 < 16 := by omega
      have e15 := and15' s[k]
      have d3 : (0 : Int) ≤ ((s[k].toNat : Nat) : Int) % 16 := by omega
      have d4 : ((s[k].toNat : Nat) : Int) % 16 < 16 := by omega
      go_wp2_with (fail)
      go_region_law (refine step_append_own rfl _ _ 86 rfl w.heap.size 5 i0 (.int .u8 0) 1 1 Tryz.underlying86 hi0 hz0 hz1 hz2 rfl (by decide) u3 _ _ rfl (hown.drew.alloc _) ⟨wr.heap.size, 0, none⟩ 2 2 (u8s [Cd.dig (s[k].toNat / 16), Cd.dig (s[k].toNat % 16)]) rfl rfl (two_cells wr.drew _ _ _ _ (hexAt _ _ (by omega) (by omega) _) (hexAt _ _ (by omega) (by omega) _)) (u8s_one _) (by unfold maxLen; omega) (by omega) (by have := hb.size; simp; omega) ?_; intro v' w2 hown2 hg2)
      all_goals (have R := hex_step a3 hown hb hown2 hg2; clear hown2 hg2 hown hb)
      all_goals go_wp2
      all_goals go_roundw
      all_goals first | exact ⟨k + 1, by omega, by go_num, R.1, R.2⟩ | (simp [intOf]; omega)
    · obtain rfl : k = n := by omega
      have ht : s.data.toList.take k = s.data.toList := List.take_of_length_le (by rw [str_len]; omega)
      rw [ht] at hown
      have hcv := run_own hown
      go_wp2
      go_ret
      exact ⟨rfl, hb⟩
end Go.Proofs.YtknmmlfdlfioiaaGreatDoor.Cb
