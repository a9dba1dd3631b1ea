/- The program's check of bytes, walked; its table of sixteen words lies as the program's text lays it. -/
import Derived.Test.YtknmmlfdlfioiaaGreatDoorCbCrc
namespace Go.Proofs.YtknmmlfdlfioiaaGreatDoor.Cb
open Go.RowKit
def KAt (w : World) : Prop := ∀ i, i < 16 → w.cell? ⟨0, i, none⟩ = some (.int .u32 ((Crc.word i).toNat : Int))
theorem b_xor (x y : BitVec 32) : bits .xor .u32 (x.toNat : Int) (y.toNat : Int) = ((x ^^^ y).toNat : Int) := by
  rw [Go.u32_xor_nat _ _ x.isLt y.isLt, BitVec.toNat_xor]
theorem b_not (x : BitVec 32) : bits .xor .u32 IntKind.u32.max (x.toNat : Int) = ((~~~x).toNat : Int) := by
  have h : IntKind.u32.max = (((4294967295#32 : BitVec 32).toNat : Nat) : Int) := by decide
  rw [h, b_xor]
  congr 2
theorem top_val (b : UInt8) : ((b.toNat : Nat) : Int) * 16777216 = ((Crc.top b).toNat : Int) := by
  have := b.toNat_lt
  rw [Crc.top, BitVec.toNat_shiftLeft, BitVec.toNat_ofNat, Nat.shiftLeft_eq]
  omega
theorem shl4_val (x : BitVec 32) : (x.toNat : Int) * (16 : Int) % (4294967296 : Int) = ((x <<< 4).toNat : Int) := by
  rw [BitVec.toNat_shiftLeft, Nat.shiftLeft_eq]
  omega
theorem shr28_val (x : BitVec 32) : (x.toNat : Int) / (268435456 : Int) = (((x >>> 28).toNat : Nat) : Int) := by
  rw [BitVec.toNat_ushiftRight, Nat.shiftRight_eq_div_pow]
  omega
theorem four_val (x : BitVec 32) : bits .xor .u32 ((x <<< 4).toNat : Int) ((Crc.word (x >>> 28).toNat).toNat : Int) = ((Crc.bits4 x).toNat : Int) := by
  rw [b_xor, Crc.bits4_eq]
set_option maxHeartbeats 800000 in
set_option maxRecDepth 100000 in
theorem check_any (s : ByteArray) (w : World) (hK : KAt w) (hs : s.size ≤ 1000000000) :
    Calls Tryz.prog 74 #[.string s] w fun e w' => e = .returned (.int .u32 ((Crc.crc s.data.toList).toNat : Int)) ∧ w = w' := by
  obtain ⟨n, hn⟩ : ∃ n, s.size = n := ⟨_, rfl⟩
  have hni : (s.size : Int) = (n : Int) := by rw [hn]
  have HK := hideIt hK
  clear hK
  go_enter Tryz.func74, Tryz.ntmps74
  go_wp2
  go_loop [3, 7] (fun a t => ∃ (k : Nat) (r : BitVec 32), k ≤ n ∧ t = .int .i64 k ∧ a = .int .u32 (r.toNat : Int) ∧ r = Crc.run (s.data.toList.take k) 4294967295#32) (fun _ t => n - (intOf t).toNat)
  case atStart => exact ⟨0, 4294967295#32, by omega, rfl, rfl, rfl⟩
  case round =>
    obtain ⟨k, r, hk, rfl, rfl, hr⟩ := hrel
    by_cases hlt : k < n
    · have hid : decide ((k : Int) < (n : Int)) = true := by simp; omega
      have a1 : (0 : Int) ≤ (k : Int) := by omega
      have a2 : (k : Int) < (s.size : Int) := by omega
      have a3 : k < s.size := by omega
      obtain ⟨b, hb⟩ : ∃ b, s[k] = b := ⟨_, rfl⟩
      have hbl := b.toNat_lt
      have b1 : ((b.toNat : Nat) : Int) < 256 := by omega
      have e0 := top_val b
      obtain ⟨t, ht⟩ : ∃ t, Crc.top b = t := ⟨_, rfl⟩
      rw [ht] at e0
      have e1 := b_xor r t
      obtain ⟨x, hx⟩ : ∃ x, r ^^^ t = x := ⟨_, rfl⟩
      rw [hx] at e1
      obtain ⟨y, hy⟩ : ∃ y, Crc.bits4 x = y := ⟨_, rfl⟩
      obtain ⟨z, hz⟩ : ∃ z, Crc.bits4 y = z := ⟨_, rfl⟩
      have f1 := four_val x
      have f2 := four_val y
      have g1 := shr28_val x
      have g2 := shr28_val y
      have k1 := Crc.shr_lt x
      have k2 := Crc.shr_lt y
      have s1 := shl4_val x
      have s2 := shl4_val y
      obtain ⟨p, hp⟩ : ∃ p, (x >>> 28).toNat = p := ⟨_, rfl⟩
      obtain ⟨q, hq⟩ : ∃ q, (y >>> 28).toNat = q := ⟨_, rfl⟩
      obtain ⟨u, hu⟩ : ∃ u, x <<< 4 = u := ⟨_, rfl⟩
      obtain ⟨v, hv⟩ : ∃ v, y <<< 4 = v := ⟨_, rfl⟩
      rw [hp] at f1 g1 k1
      rw [hq] at f2 g2 k2
      rw [hu] at f1 s1
      rw [hv] at f2 s2
      rw [hy] at f1
      rw [hz] at f2
      have c1 := HK.out p k1
      have c2 := HK.out q k2
      obtain ⟨m, hm⟩ : ∃ m, Crc.word p = m := ⟨_, rfl⟩
      obtain ⟨o, ho⟩ : ∃ o, Crc.word q = o := ⟨_, rfl⟩
      rw [hm] at f1 c1
      rw [ho] at f2 c2
      have p1 : (p : Int) < 16 := by omega
      have q1 : (q : Int) < 16 := by omega
      have p2 : (0 : Int) ≤ (p : Int) := by omega
      have q2 : (0 : Int) ≤ (q : Int) := by omega
      have HR : Hid (z = Crc.run (s.data.toList.take (k + 1)) 4294967295#32) := by
        refine hideIt ?_
        rw [List.take_succ_eq_append_getElem (by rw [str_len]; exact a3), Crc.run_append, ← hr]
        have e : s.data.toList[k]'(by rw [str_len]; exact a3) = b := hb
        rw [e]
        show z = Crc.bits4 (Crc.bits4 (r ^^^ Crc.top b))
        rw [ht, hx, hy, hz]
      have xl := x.isLt
      have yl := y.isLt
      clear hr hx hy hz hp hq hu hv hm ho ht
      go_wp2
      go_round
      case rel => exact ⟨k + 1, z, by omega, by go_num, rfl, HR.out⟩
      case measure => simp [intOf]; omega
    · obtain rfl : k = n := by omega
      have htk : s.data.toList.take k = s.data.toList := List.take_of_length_le (by rw [str_len]; omega)
      rw [htk] at hr
      have en := b_not r
      have HE : Hid (~~~r = Crc.crc s.data.toList) := hideIt (by rw [hr]; rfl)
      rw [HE.out] at en
      clear hr htk
      go_wp2
      go_ret
      exact ⟨rfl, rfl⟩
end Go.Proofs.YtknmmlfdlfioiaaGreatDoor.Cb
