/- The bytes of digits, walked. -/
import Derived.Test.YtknmmlfdlfioiaaGreatDoorCbIdx
namespace Go.Proofs.YtknmmlfdlfioiaaGreatDoor.Cb
open Go.RowKit
def unhexV (o : Option (List UInt8)) : Value := match o with | some t => .tuple #[.string (bs t), .int .i64 0] | none => .tuple #[.string ⟨#[]⟩, .int .i64 6]
theorem unhex_odd : ∀ l : List UInt8, l.length % 2 = 1 → Cd.unhexL l = none
  | [], h => by simp at h
  | [_], _ => rfl
  | a :: b :: t, h => by
    rw [Cd.unhexL, unhex_odd t (by simp at h; omega)]
    split <;> rfl
theorem or16 : ∀ a b : Fin 16, bits .or .i64 ((a.val : Int) * 16) (b.val : Int) = ((16 * a.val + b.val : Nat) : Int) := by decide +kernel
structure UnMem (N n k : Nat) (l outs : List UInt8) (w0 w : World) : Prop where
  below : Below N w0 w
  row : w.heap[N]? = some (.cells (rowA (outs ++ List.replicate (n - k) 0)) 5 (0, 0))
  len : outs.length = k
  tells : Cd.unhexL l = (Cd.unhexL (l.drop (2 * k))).map (fun r => outs ++ r)
theorem UnMem.next {N n k : Nat} {l outs : List UInt8} {w0 w : World} (h : UnMem N n k l outs w0 w) (hk : k < n) {a b : UInt8} (hd : l.drop (2 * k) = a :: b :: l.drop (2 * (k + 1))) (ha : Cd.val a < 16) (hb : Cd.val b < 16) :
    UnMem N n (k + 1) l (outs ++ [UInt8.ofNat (16 * Cd.val a + Cd.val b)]) w0 (w.setCell ⟨N, k, none⟩ (.int .u8 ((UInt8.ofNat (16 * Cd.val a + Cd.val b)).toNat : Int))) := by
  refine ⟨h.below.setCell (p := ⟨N, k, none⟩) (Nat.le_refl _) _, ?_, by simp [h.len], ?_⟩
  · rw [row_put _ h.row]
    congr 3
    rw [List.set_append_right _ _ (by rw [h.len]; omega), h.len, Nat.sub_self, show n - k = (n - (k + 1)) + 1 by omega, List.replicate_succ, List.set_cons_zero, List.append_assoc]
    rfl
  · rw [h.tells, hd, Cd.unhexL, if_pos ⟨ha, hb⟩]
    cases Cd.unhexL (l.drop (2 * (k + 1))) <;> simp
theorem UnMem.stop {N n k : Nat} {l outs : List UInt8} {w0 w : World} (h : UnMem N n k l outs w0 w) {a b : UInt8} (hd : l.drop (2 * k) = a :: b :: l.drop (2 * (k + 1))) (hv : ¬ (Cd.val a < 16 ∧ Cd.val b < 16)) : Cd.unhexL l = none := by
  rw [h.tells, hd, Cd.unhexL, if_neg hv]
  rfl
theorem UnMem.fin {N n : Nat} {l outs : List UInt8} {w0 w : World} (h : UnMem N n n l outs w0 w) (hl : l.length = 2 * n) : Cd.unhexL l = some outs := by
  rw [h.tells, List.drop_of_length_le (by omega)]
  simp [Cd.unhexL]
theorem place_good {b : UInt8} (h : Cd.val b < 16) : place b = (Cd.val b : Int) := if_pos h
theorem place_bad {b : UInt8} (h : ¬ Cd.val b < 16) : place b = -1 := if_neg h
theorem drop_two (s : ByteArray) (k p : Nat) (hp : p = 2 * k) (h1 : p < s.size) (h2 : p + 1 < s.size) : s.data.toList.drop (2 * k) = s[p] :: s[p + 1] :: s.data.toList.drop (2 * (k + 1)) := by
  subst hp
  rw [List.drop_eq_getElem_cons (by rw [str_len]; exact h1), List.drop_eq_getElem_cons (by rw [str_len]; exact h2)]
  rfl
set_option maxHeartbeats 800000 in
set_option maxRecDepth 100000 in
theorem unhex_any (s : ByteArray) (w : World) (hs : s.size ≤ 1000000) :
    Calls Tryz.prog 82 #[.string s] w fun e w' => e = .returned (unhexV (Cd.unhexL s.data.toList)) ∧ Below w.heap.size w w' := by
  by_cases hodd : s.size % 2 = 1
  · have a0 : (s.size : Int) % 2 = 1 := by omega
    rw [unhex_odd _ (by rw [str_len]; exact hodd)]
    go_enter Tryz.func82, Tryz.ntmps82
    go_wp2
    go_ret2
    exact ⟨rfl, Below.refl _ _⟩
  · obtain ⟨n, hn⟩ : ∃ n, s.size = 2 * n := ⟨s.size / 2, by omega⟩
    have a0 : (s.size : Int) % 2 = 0 := by omega
    have a1 : (s.size : Int) / 2 = (n : Int) := by omega
    have hmk := run_make_bytes .i64 n (by omega)
    have HN := hideIt hn
    clear hn
    go_enter Tryz.func82, Tryz.ntmps82
    go_wp2
    go_loopw [18] (fun t wr => ∃ k : Nat, k ≤ n ∧ t = .int .i64 k ∧ ∃ outs, UnMem w.heap.size n k s.data.toList outs w wr) (fun t _ => n - (intOf t).toNat)
    case atStart => exact ⟨0, by omega, rfl, [], (Below.refl _ _).alloc (Nat.le_refl _) _, alloc_at rfl, rfl, by simp⟩
    case round =>
      obtain ⟨k, hk, rfl, outs, hm⟩ := hrel
      clear a0 a1
      by_cases hlt : k < n
      · have hid : decide ((k : Int) < (n : Int)) = true := by simp; omega
        obtain ⟨p, hp⟩ : ∃ p, p = 2 * k := ⟨_, rfl⟩
        have hp1 : p < s.size := by rw [HN.out]; omega
        have hp2 : p + 1 < s.size := by rw [HN.out]; omega
        have b0 : (2 : Int) * (k : Int) = (p : Int) := by omega
        have b1 : (0 : Int) ≤ (p : Int) := by omega
        have b2 : (p : Int) < (s.size : Int) := by omega
        have b3 : (0 : Int) ≤ (p : Int) + 1 := by omega
        have b4 : (p : Int) + 1 < (s.size : Int) := by omega
        have hd := drop_two s k p hp hp1 hp2
        obtain ⟨a, ha⟩ : ∃ a, s[p] = a := ⟨_, rfl⟩
        obtain ⟨b, hb⟩ : ∃ b, s[p + 1] = b := ⟨_, rfl⟩
        rw [ha, hb] at hd
        have HP := hideIt hp
        clear hp
        by_cases hv : Cd.val a < 16 ∧ Cd.val b < 16
        · have HA := hideIt (idx_any a)
          have HB := hideIt (idx_any b)
          rw [place_good hv.1] at HA
          rw [place_good hv.2] at HB
          have HM := hideIt (hm.next hlt hd hv.1 hv.2)
          obtain ⟨x, hx⟩ : ∃ x, Cd.val a = x := ⟨_, rfl⟩
          obtain ⟨y, hy⟩ : ∃ y, Cd.val b = y := ⟨_, rfl⟩
          rw [hx] at HA hv
          rw [hy] at HB hv
          rw [hx, hy] at HM
          have da : decide ((x : Int) < 0) = false := decide_eq_false (by omega)
          have db : decide ((y : Int) < 0) = false := decide_eq_false (by omega)
          obtain ⟨v, hvv⟩ : ∃ v, UInt8.ofNat (16 * x + y) = v := ⟨_, rfl⟩
          have hvn : v.toNat = 16 * x + y := by rw [← hvv, UInt8.toNat_ofNat']; omega
          have eor : bits .or .i64 ((x : Int) * 16) (y : Int) = (v.toNat : Int) := by rw [hvn]; exact or16 ⟨x, hv.1⟩ ⟨y, hv.2⟩
          rw [hvv] at HM
          obtain ⟨z, c1⟩ : ∃ z : Int, wr.cell? ⟨w.heap.size, k, none⟩ = some (.int .u8 z) := ⟨_, by rw [cell_of_row _ _ k _ _ _ hm.row, rowA_at _ _ (by simp [hm.len]; omega)]⟩
          have hf : wr.frozen? ⟨w.heap.size, k, none⟩ = false := by simp [World.frozen?, hm.row]
          have vl := v.toNat_lt
          have v2 : (v.toNat : Int) < 256 := by omega
          have v3 : (0 : Int) ≤ (v.toNat : Int) := by omega
          have x1 : (x : Int) < 16 := by omega
          have y1 : (y : Int) < 16 := by omega
          clear hx hy hvv hvn hd hm hv
          go_wp2_with (first | (go_at_call_of 104 (Value.int .u8 (a.toNat : Int)); refine (HA.out _).mono ?_; rintro e w1 ⟨rfl, rfl⟩) | (go_at_call 104; refine (HB.out _).mono ?_; rintro e w1 ⟨rfl, rfl⟩))
          go_roundw
          case rel => exact ⟨k + 1, by omega, by go_num, _, HM.out⟩
          case measure => simp [intOf]; omega
        · have HU := hideIt (hm.stop hd hv)
          have HW := hideIt hm.below
          have HA := hideIt (idx_any a)
          have HB := hideIt (idx_any b)
          by_cases hva : Cd.val a < 16
          · have hvb : ¬ Cd.val b < 16 := fun h => hv ⟨hva, h⟩
            rw [place_good hva] at HA
            rw [place_bad hvb] at HB
            obtain ⟨x, hx⟩ : ∃ x, Cd.val a = x := ⟨_, rfl⟩
            rw [hx] at HA
            have da : decide ((x : Int) < 0) = false := decide_eq_false (by omega)
            clear hx hd hm hv hva hvb
            go_wp2_with (first | (go_at_call_of 104 (Value.int .u8 (a.toNat : Int)); refine (HA.out _).mono ?_; rintro e w1 ⟨rfl, rfl⟩) | (go_at_call 104; refine (HB.out _).mono ?_; rintro e w1 ⟨rfl, rfl⟩))
            go_ret2
            exact ⟨by rw [HU.out]; rfl, HW.out⟩
          · rw [place_bad hva] at HA
            obtain ⟨y, hy⟩ : ∃ y, place b = y := ⟨_, rfl⟩
            rw [hy] at HB
            clear hy hd hm hv hva
            go_wp2_with (first | (go_at_call_of 104 (Value.int .u8 (a.toNat : Int)); refine (HA.out _).mono ?_; rintro e w1 ⟨rfl, rfl⟩) | (go_at_call 104; refine (HB.out _).mono ?_; rintro e w1 ⟨rfl, rfl⟩))
            go_ret2
            exact ⟨by rw [HU.out]; rfl, HW.out⟩
      · obtain rfl : k = n := by omega
        have e := hm.fin (by rw [str_len]; exact HN.out)
        have hr := hm.row
        rw [Nat.sub_self, List.replicate_zero, List.append_nil] at hr
        have hcv := run_row outs wr w.heap.size 5 hr k
        rw [hm.len] at hcv
        have HE := hideIt e
        have HW := hideIt hm.below
        clear hm hr e
        go_wp2
        go_ret2
        exact ⟨by rw [HE.out]; rfl, HW.out⟩
end Go.Proofs.YtknmmlfdlfioiaaGreatDoor.Cb
