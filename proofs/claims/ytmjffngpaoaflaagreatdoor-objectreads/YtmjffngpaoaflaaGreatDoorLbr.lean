/- The document's own way to tell runes, walked. -/
import Derived.Test.YtmjffngpaoaflaaGreatDoorLbk
namespace Go.Proofs.YtmjffngpaoaflaaGreatDoor
open Go.RowKit
namespace Lb
def accV (s : ByteArray) (v : Int) : Nat → Int
  | 0 => v
  | k + 1 => accV s v k * 64 + ((s.get! (k + 1)).toNat : Int) - 128
def fstS (s : ByteArray) : Int × Nat := fstN s.size (s.get! 0).toNat (s.get! 1).toNat (s.get! 2).toNat (s.get! 3).toNat
/-- The classes of a first byte that has others behind it: how many, from which number on, what is taken away. -/
def Cls (b n : Nat) (least sub : Int) : Prop := (194 ≤ b ∧ b < 224 ∧ n = 1 ∧ least = 128 ∧ sub = 192) ∨ (224 ≤ b ∧ b < 240 ∧ n = 2 ∧ least = 2048 ∧ sub = 224) ∨ (240 ≤ b ∧ b < 245 ∧ n = 3 ∧ least = 65536 ∧ sub = 240)
theorem fst_low (s : ByteArray) (h : (s.get! 0).toNat < 128) : fstS s = (((s.get! 0).toNat : Int), 1) := by rw [fstS, fstN, if_pos h]
theorem fst_none (s : ByteArray) (h : (128 ≤ (s.get! 0).toNat ∧ (s.get! 0).toNat < 194) ∨ 245 ≤ (s.get! 0).toNat) : fstS s = (-1, 1) := by
  rw [fstS, fstN, if_neg (by omega), if_neg (by omega), if_neg (by omega), if_neg (by omega)]
theorem fst_short {s : ByteArray} {n : Nat} {least sub : Int} (c : Cls (s.get! 0).toNat n least sub) (h : s.size ≤ n) : fstS s = (-1, 1) := by
  rw [fstS]
  rcases c with ⟨h1, h2, rfl, rfl, rfl⟩ | ⟨h1, h2, rfl, rfl, rfl⟩ | ⟨h1, h2, rfl, rfl, rfl⟩
  · rw [fstN, if_neg (by omega), if_pos (by omega), if_pos h]
  · rw [fstN, if_neg (by omega), if_neg (by omega), if_pos (by omega), if_pos h]
  · rw [fstN, if_neg (by omega), if_neg (by omega), if_neg (by omega), if_pos (by omega), if_pos h]
theorem fst_stray {s : ByteArray} {n : Nat} {least sub : Int} (c : Cls (s.get! 0).toNat n least sub) (h : n < s.size) (k : Nat) (hk : k < n) (hc : cont (s.get! (k + 1)).toNat = false) : fstS s = (-1, 1) := by
  rw [fstS]
  rcases c with ⟨h1, h2, rfl, rfl, rfl⟩ | ⟨h1, h2, rfl, rfl, rfl⟩ | ⟨h1, h2, rfl, rfl, rfl⟩
  · obtain rfl : k = 0 := by omega
    rw [fstN, if_neg (by omega), if_pos (by omega), if_neg (by omega), if_pos hc]
  · rw [fstN, if_neg (by omega), if_neg (by omega), if_pos (by omega), if_neg (by omega)]
    have : k = 0 ∨ k = 1 := by omega
    rcases this with rfl | rfl
    · rw [if_pos hc]
    · rw [if_pos hc]; split <;> rfl
  · rw [fstN, if_neg (by omega), if_neg (by omega), if_neg (by omega), if_pos (by omega), if_neg (by omega)]
    have : k = 0 ∨ k = 1 ∨ k = 2 := by omega
    rcases this with rfl | rfl | rfl
    · rw [if_pos hc]
    · rw [if_pos hc]; split <;> rfl
    · rw [if_pos hc]; repeat' split
      all_goals rfl
theorem fst_val {s : ByteArray} {n : Nat} {least sub : Int} (c : Cls (s.get! 0).toNat n least sub) (h : n < s.size) (hc : ∀ k, k < n → cont (s.get! (k + 1)).toNat = true) : fstS s = valC (accV s (((s.get! 0).toNat : Int) - sub) n) least (n + 1) := by
  rw [fstS]
  rcases c with ⟨h1, h2, rfl, rfl, rfl⟩ | ⟨h1, h2, rfl, rfl, rfl⟩ | ⟨h1, h2, rfl, rfl, rfl⟩
  · rw [fstN, if_neg (by omega), if_pos (by omega), if_neg (by omega), if_neg (by rw [hc 0 (by omega)]; simp)]
    rfl
  · rw [fstN, if_neg (by omega), if_neg (by omega), if_pos (by omega), if_neg (by omega), if_neg (by rw [hc 0 (by omega)]; simp), if_neg (by rw [hc 1 (by omega)]; simp)]
    rfl
  · rw [fstN, if_neg (by omega), if_neg (by omega), if_neg (by omega), if_pos (by omega), if_neg (by omega), if_neg (by rw [hc 0 (by omega)]; simp), if_neg (by rw [hc 1 (by omega)]; simp), if_neg (by rw [hc 2 (by omega)]; simp)]
    rfl
theorem accV_next (s : ByteArray) (v : Int) (i : Nat) (h : 1 ≤ i) : accV s v i = accV s v (i - 1) * 64 + ((s.get! i).toNat : Int) - 128 := by
  cases i with
  | zero => omega
  | succ k => rfl
theorem accV_bound (s : ByteArray) (v : Int) (h0 : 0 ≤ v) (h1 : v ≤ 31) : ∀ n, (∀ k, k < n → cont (s.get! (k + 1)).toNat = true) → 0 ≤ accV s v n ∧ accV s v n + 1 ≤ 32 * 64 ^ n := by
  intro n
  induction n with
  | zero => intro _; simp [accV]; omega
  | succ n ih =>
    intro hc
    obtain ⟨a, b⟩ := ih (fun k hk => hc k (by omega))
    have := hc n (by omega)
    simp [cont] at this
    rw [accV, Int.pow_succ]
    generalize (64 : Int) ^ n = q at *
    omega
end Lb
/-- How a first byte compares with the classes' bounds. -/
structure FstC (x : Int) (a b c d e f g : Bool) : Prop where
  a1 : decide (x < (128 : Int)) = a
  b1 : decide ((194 : Int) ≤ x) = b
  c1 : decide (x < (224 : Int)) = c
  d1 : decide ((224 : Int) ≤ x) = d
  e1 : decide (x < (240 : Int)) = e
  f1 : decide ((240 : Int) ≤ x) = f
  g1 : decide (x < (245 : Int)) = g
theorem fstC_mk (x : Int) (a b c d e f g : Bool) (h : decide (x < (128 : Int)) = a ∧ decide ((194 : Int) ≤ x) = b ∧ decide (x < (224 : Int)) = c ∧ decide ((224 : Int) ≤ x) = d ∧ decide (x < (240 : Int)) = e ∧ decide ((240 : Int) ≤ x) = f ∧ decide (x < (245 : Int)) = g) : FstC x a b c d e f g :=
  ⟨h.1, h.2.1, h.2.2.1, h.2.2.2.1, h.2.2.2.2.1, h.2.2.2.2.2.1, h.2.2.2.2.2.2⟩
theorem get_idx (s : ByteArray) (k : Nat) (h : k < s.size) : s.get! k = s[k] := get_at s k h
set_option maxHeartbeats 1600000 in
set_option maxRecDepth 100000 in
theorem first_low (s : ByteArray) (w : World) (h0 : 0 < s.size) (h : (s.get! 0).toNat < 128 ∨ (128 ≤ (s.get! 0).toNat ∧ (s.get! 0).toNat < 194) ∨ 245 ≤ (s.get! 0).toNat) :
    Calls Tryz.prog 88 #[.string s] w fun e w' => e = .returned (.tuple #[.int .i64 (Lb.fstS s).1, .int .i64 ((Lb.fstS s).2 : Nat)]) ∧ w' = w := by
  have g0 := get_idx s 0 h0
  have hlt : (s[0]).toNat < 256 := UInt8.toNat_lt _
  have low := Lb.fst_low s
  have none := Lb.fst_none s
  rw [g0] at low none h
  obtain ⟨x, hx⟩ : ∃ x, (s[0]).toNat = x := ⟨_, rfl⟩
  rw [hx] at low none h hlt
  have b1 : (x : Int) < 256 := by omega
  rcases h with h | h | h
  · rw [low h]
    obtain ⟨q1, q2, q3, q4, q5, q6, q7⟩ : FstC (x : Int) true false true false true false true := fstC_mk _ _ _ _ _ _ _ _ (by simp; omega)
    clear low none g0
    go_enter Tryz.func88, Tryz.ntmps88
    go_wp2
    go_ret2
    exact ⟨rfl, rfl⟩
  · rw [none (.inl h)]
    obtain ⟨q1, q2, q3, q4, q5, q6, q7⟩ : FstC (x : Int) false false true false true false true := fstC_mk _ _ _ _ _ _ _ _ (by simp; omega)
    clear low none g0
    go_enter Tryz.func88, Tryz.ntmps88
    go_wp2
    go_ret2
    exact ⟨rfl, rfl⟩
  · rw [none (.inr h)]
    obtain ⟨q1, q2, q3, q4, q5, q6, q7⟩ : FstC (x : Int) false true false true false true false := fstC_mk _ _ _ _ _ _ _ _ (by simp; omega)
    clear low none g0
    go_enter Tryz.func88, Tryz.ntmps88
    go_wp2
    go_ret2
    exact ⟨rfl, rfl⟩
theorem valC_of (v least : Int) (n : Nat) {a b c d : Bool} (h1 : decide (v < least) = a) (h2 : decide ((55296 : Int) ≤ v) = b) (h3 : decide (v < (57344 : Int)) = c) (h4 : decide ((1114111 : Int) < v) = d) : Lb.valC v least n = if (a || (b && c) || d) = true then (-1, 1) else (v, n) := by
  subst h1 h2 h3 h4
  unfold Lb.valC
  simp only [Bool.or_eq_true, Bool.and_eq_true, decide_eq_true_eq, or_assoc]
theorem cont_of (x : Nat) {a b : Bool} (h1 : decide ((x : Int) < (128 : Int)) = a) (h2 : decide ((191 : Int) < (x : Int)) = b) : Lb.cont x = (!a && !b) := by
  subst h1 h2
  unfold Lb.cont
  have e1 : decide (128 ≤ x) = !decide ((x : Int) < 128) := by rw [← decide_not]; apply decide_eq_decide.2; omega
  have e2 : decide (x ≤ 191) = !decide ((191 : Int) < (x : Int)) := by rw [← decide_not]; apply decide_eq_decide.2; omega
  rw [e1, e2]
set_option maxHeartbeats 3200000 in
set_option maxRecDepth 100000 in
theorem first_cls1 (s : ByteArray) (w : World) (hs : s.size ≤ maxLen) (h0 : 0 < s.size) (hb : 194 ≤ (s.get! 0).toNat ∧ (s.get! 0).toNat < 224) :
    Calls Tryz.prog 88 #[.string s] w fun e w' => e = .returned (.tuple #[.int .i64 (Lb.fstS s).1, .int .i64 ((Lb.fstS s).2 : Nat)]) ∧ w' = w := by
  unfold maxLen at hs
  have hc : Lb.Cls (s.get! 0).toNat 1 128 192 := by unfold Lb.Cls; omega
  have HS := hideIt (fun h => Lb.fst_short hc h)
  have HT := hideIt (fun h => Lb.fst_stray hc h)
  have HV := hideIt (fun h => Lb.fst_val hc h)
  have g0 := get_idx s 0 h0
  obtain ⟨x, hx⟩ : ∃ x, (s[0]).toNat = x := ⟨_, rfl⟩
  rw [g0, hx] at hb HV
  obtain ⟨c1, c2⟩ := hb
  clear g0 hc
  obtain ⟨z, hz⟩ : ∃ z, s.size = z := ⟨_, rfl⟩
  have hzi : (s.size : Int) = (z : Int) := by rw [hz]
  obtain ⟨q1, q2, q3, q4, q5, q6, q7⟩ : FstC (x : Int) false true true false true false true := fstC_mk _ _ _ _ _ _ _ _ (by simp; omega)
  have b1 : (x : Int) < 256 := by omega
  have b2 : (194 : Int) ≤ (x : Int) := by omega
  by_cases hl : z ≤ 1
  · have d1 : decide ((z : Int) ≤ 1) = true := by simp; omega
    have HF := hideIt (HS.out (by omega))
    clear HS HT HV
    go_enter Tryz.func88, Tryz.ntmps88
    go_wp2
    go_ret2
    exact ⟨by rw [HF.out]; rfl, rfl⟩
  · have d1 : decide ((z : Int) ≤ 1) = false := by simp; omega
    have HT := hideIt (HT.out (by omega))
    have HV := hideIt (HV.out (by omega))
    have HB := hideIt (Lb.accV_bound s ((x : Int) - 192) (by omega) (by omega))
    clear HS
    go_enter Tryz.func88, Tryz.ntmps88
    go_wp2
    go_loop [7, 8] (fun v i => ∃ k : Nat, 1 ≤ k ∧ k ≤ 1 + 1 ∧ i = .int .i64 k ∧ v = .int .i64 (Lb.accV s ((x : Int) - 192) (k - 1)) ∧ ∀ j, j < k - 1 → Lb.cont (s.get! (j + 1)).toNat = true) (fun _ i => 1 + 1 - (intOf i).toNat)
    case atStart => exact ⟨1, by omega, by omega, rfl, rfl, fun j hj => by omega⟩
    case round =>
      obtain ⟨k, hk1, hk2, rfl, rfl, hall⟩ := hrel
      obtain ⟨r1, r2⟩ := HB.out (k - 1) hall
      have HA := hideIt (Lb.accV_next s ((x : Int) - 192) k hk1)
      have HL := hideIt hall
      clear hall
      obtain ⟨V, hV⟩ : ∃ V, Lb.accV s ((x : Int) - 192) (k - 1) = V := ⟨_, rfl⟩
      rw [hV] at HA r1 r2
      by_cases hkn : k ≤ 1
      · have d2 : (k : Int) ≤ 1 := by omega
        have d3 : decide ((k : Int) ≤ 1) = true := by simp; omega
        have hks : k < s.size := by omega
        have i1 : (k : Int) < (z : Int) := by omega
        have i0 : (0 : Int) ≤ (k : Int) := by omega
        have gk := get_idx s k hks
        obtain ⟨y, hy⟩ : ∃ y, (s[k]).toNat = y := ⟨_, rfl⟩
        rw [gk, hy] at HA
        have HC := hideIt (cont_of y rfl rfl)
        have y0 : (y : Int) < 256 := by have : (s[k]).toNat < 256 := UInt8.toNat_lt _; omega
        have v2 : V ≤ 200000 := by
          have : (64 : Int) ^ (k - 1) ≤ 64 ^ 2 := by
            have : k - 1 = 0 ∨ k - 1 = 1 ∨ k - 1 = 2 := by omega
            rcases this with e | e | e <;> rw [e] <;> decide
          omega
        have HG := hideIt (show Lb.cont (s.get! (k - 1 + 1)).toNat = Lb.cont y by rw [show k - 1 + 1 = k by omega, gk, hy])
        clear r2 gk
        by_cases y1 : y < 128
        · have y2 : decide ((y : Int) < 128) = true := by simp; omega
          have HF := hideIt (HT.out (k - 1) (by omega) (by rw [HG.out, HC.out, y2]; rfl))
          rw [hV]
          clear HT HV HB HC HG
          go_wp2
          go_ret2
          exact ⟨by rw [HF.out]; rfl, rfl⟩
        · have y2 : decide ((y : Int) < 128) = false := by simp; omega
          by_cases y3 : 191 < y
          · have y4 : decide ((191 : Int) < (y : Int)) = true := by simp; omega
            have HF := hideIt (HT.out (k - 1) (by omega) (by rw [HG.out, HC.out, y2, y4]; rfl))
            rw [hV]
            clear HT HV HB HC HG
            go_wp2
            go_ret2
            exact ⟨by rw [HF.out]; rfl, rfl⟩
          · have y4 : decide ((191 : Int) < (y : Int)) = false := by simp; omega
            have HF := hideIt (show Lb.cont y = true by rw [HC.out, y2, y4]; rfl)
            rw [hV]
            go_wp2
            go_round
            case rel =>
              refine ⟨k + 1, by omega, by omega, by go_num, ?_, ?_⟩
              · rw [Nat.add_sub_cancel, HA.out]; try rfl
              · intro j hj
                by_cases e : j = k - 1
                · rw [e, HG.out, HF.out]
                · exact HL.out j (by omega)
            case measure => simp [intOf]; omega
      · have d2 : ¬ (k : Int) ≤ 1 := by omega
        have d3 : decide ((k : Int) ≤ 1) = false := by simp; omega
        obtain rfl : k = 1 + 1 := by omega
        have HF := hideIt (HV.out (fun j hj => HL.out j (by omega)))
        rw [show 1 + 1 - 1 = 1 from rfl] at hV
        rw [hV] at HF
        have HW := hideIt (valC_of V 128 (1 + 1) rfl rfl rfl rfl)
        rw [show 1 + 1 - 1 = 1 from rfl, hV]
        clear hV HA HL HT HV HB r2
        by_cases u1 : V < 128
        · have u2 : decide (V < 128) = true := by simpa using u1
          rw [u2] at HW
          go_wp2
          go_ret2
          exact ⟨by rw [HF.out, HW.out]; rfl, rfl⟩
        · have u2 : decide (V < 128) = false := by simpa using u1
          rw [u2] at HW
          by_cases u3 : 55296 ≤ V
          · have u4 : decide ((55296 : Int) ≤ V) = true := by simpa using u3
            rw [u4] at HW
            by_cases u5 : V < 57344
            · have u6 : decide (V < (57344 : Int)) = true := by simpa using u5
              rw [u6] at HW
              go_wp2
              go_ret2
              exact ⟨by rw [HF.out, HW.out]; rfl, rfl⟩
            · have u6 : decide (V < (57344 : Int)) = false := by simpa using u5
              rw [u6] at HW
              obtain ⟨b, hb⟩ : ∃ b, decide ((1114111 : Int) < V) = b := ⟨_, rfl⟩
              rw [hb] at HW
              cases b
              all_goals
                go_wp2
                go_ret2
                exact ⟨by rw [HF.out, HW.out]; rfl, rfl⟩
          · have u4 : decide ((55296 : Int) ≤ V) = false := by simpa using u3
            rw [u4] at HW
            have u7 : decide ((1114111 : Int) < V) = false := by simp; omega
            rw [u7] at HW
            go_wp2
            go_ret2
            exact ⟨by rw [HF.out, HW.out]; rfl, rfl⟩
set_option maxHeartbeats 3200000 in
set_option maxRecDepth 100000 in
theorem first_cls2 (s : ByteArray) (w : World) (hs : s.size ≤ maxLen) (h0 : 0 < s.size) (hb : 224 ≤ (s.get! 0).toNat ∧ (s.get! 0).toNat < 240) :
    Calls Tryz.prog 88 #[.string s] w fun e w' => e = .returned (.tuple #[.int .i64 (Lb.fstS s).1, .int .i64 ((Lb.fstS s).2 : Nat)]) ∧ w' = w := by
  unfold maxLen at hs
  have hc : Lb.Cls (s.get! 0).toNat 2 2048 224 := by unfold Lb.Cls; omega
  have HS := hideIt (fun h => Lb.fst_short hc h)
  have HT := hideIt (fun h => Lb.fst_stray hc h)
  have HV := hideIt (fun h => Lb.fst_val hc h)
  have g0 := get_idx s 0 h0
  obtain ⟨x, hx⟩ : ∃ x, (s[0]).toNat = x := ⟨_, rfl⟩
  rw [g0, hx] at hb HV
  obtain ⟨c1, c2⟩ := hb
  clear g0 hc
  obtain ⟨z, hz⟩ : ∃ z, s.size = z := ⟨_, rfl⟩
  have hzi : (s.size : Int) = (z : Int) := by rw [hz]
  obtain ⟨q1, q2, q3, q4, q5, q6, q7⟩ : FstC (x : Int) false true false true true false true := fstC_mk _ _ _ _ _ _ _ _ (by simp; omega)
  have b1 : (x : Int) < 256 := by omega
  have b2 : (224 : Int) ≤ (x : Int) := by omega
  by_cases hl : z ≤ 2
  · have d1 : decide ((z : Int) ≤ 2) = true := by simp; omega
    have HF := hideIt (HS.out (by omega))
    clear HS HT HV
    go_enter Tryz.func88, Tryz.ntmps88
    go_wp2
    go_ret2
    exact ⟨by rw [HF.out]; rfl, rfl⟩
  · have d1 : decide ((z : Int) ≤ 2) = false := by simp; omega
    have HT := hideIt (HT.out (by omega))
    have HV := hideIt (HV.out (by omega))
    have HB := hideIt (Lb.accV_bound s ((x : Int) - 224) (by omega) (by omega))
    clear HS
    go_enter Tryz.func88, Tryz.ntmps88
    go_wp2
    go_loop [7, 8] (fun v i => ∃ k : Nat, 1 ≤ k ∧ k ≤ 2 + 1 ∧ i = .int .i64 k ∧ v = .int .i64 (Lb.accV s ((x : Int) - 224) (k - 1)) ∧ ∀ j, j < k - 1 → Lb.cont (s.get! (j + 1)).toNat = true) (fun _ i => 2 + 1 - (intOf i).toNat)
    case atStart => exact ⟨1, by omega, by omega, rfl, rfl, fun j hj => by omega⟩
    case round =>
      obtain ⟨k, hk1, hk2, rfl, rfl, hall⟩ := hrel
      obtain ⟨r1, r2⟩ := HB.out (k - 1) hall
      have HA := hideIt (Lb.accV_next s ((x : Int) - 224) k hk1)
      have HL := hideIt hall
      clear hall
      obtain ⟨V, hV⟩ : ∃ V, Lb.accV s ((x : Int) - 224) (k - 1) = V := ⟨_, rfl⟩
      rw [hV] at HA r1 r2
      by_cases hkn : k ≤ 2
      · have d2 : (k : Int) ≤ 2 := by omega
        have d3 : decide ((k : Int) ≤ 2) = true := by simp; omega
        have hks : k < s.size := by omega
        have i1 : (k : Int) < (z : Int) := by omega
        have i0 : (0 : Int) ≤ (k : Int) := by omega
        have gk := get_idx s k hks
        obtain ⟨y, hy⟩ : ∃ y, (s[k]).toNat = y := ⟨_, rfl⟩
        rw [gk, hy] at HA
        have HC := hideIt (cont_of y rfl rfl)
        have y0 : (y : Int) < 256 := by have : (s[k]).toNat < 256 := UInt8.toNat_lt _; omega
        have v2 : V ≤ 200000 := by
          have : (64 : Int) ^ (k - 1) ≤ 64 ^ 2 := by
            have : k - 1 = 0 ∨ k - 1 = 1 ∨ k - 1 = 2 := by omega
            rcases this with e | e | e <;> rw [e] <;> decide
          omega
        have HG := hideIt (show Lb.cont (s.get! (k - 1 + 1)).toNat = Lb.cont y by rw [show k - 1 + 1 = k by omega, gk, hy])
        clear r2 gk
        by_cases y1 : y < 128
        · have y2 : decide ((y : Int) < 128) = true := by simp; omega
          have HF := hideIt (HT.out (k - 1) (by omega) (by rw [HG.out, HC.out, y2]; rfl))
          rw [hV]
          clear HT HV HB HC HG
          go_wp2
          go_ret2
          exact ⟨by rw [HF.out]; rfl, rfl⟩
        · have y2 : decide ((y : Int) < 128) = false := by simp; omega
          by_cases y3 : 191 < y
          · have y4 : decide ((191 : Int) < (y : Int)) = true := by simp; omega
            have HF := hideIt (HT.out (k - 1) (by omega) (by rw [HG.out, HC.out, y2, y4]; rfl))
            rw [hV]
            clear HT HV HB HC HG
            go_wp2
            go_ret2
            exact ⟨by rw [HF.out]; rfl, rfl⟩
          · have y4 : decide ((191 : Int) < (y : Int)) = false := by simp; omega
            have HF := hideIt (show Lb.cont y = true by rw [HC.out, y2, y4]; rfl)
            rw [hV]
            go_wp2
            go_round
            case rel =>
              refine ⟨k + 1, by omega, by omega, by go_num, ?_, ?_⟩
              · rw [Nat.add_sub_cancel, HA.out]; try rfl
              · intro j hj
                by_cases e : j = k - 1
                · rw [e, HG.out, HF.out]
                · exact HL.out j (by omega)
            case measure => simp [intOf]; omega
      · have d2 : ¬ (k : Int) ≤ 2 := by omega
        have d3 : decide ((k : Int) ≤ 2) = false := by simp; omega
        obtain rfl : k = 2 + 1 := by omega
        have HF := hideIt (HV.out (fun j hj => HL.out j (by omega)))
        rw [show 2 + 1 - 1 = 2 from rfl] at hV
        rw [hV] at HF
        have HW := hideIt (valC_of V 2048 (2 + 1) rfl rfl rfl rfl)
        rw [show 2 + 1 - 1 = 2 from rfl, hV]
        clear hV HA HL HT HV HB r2
        by_cases u1 : V < 2048
        · have u2 : decide (V < 2048) = true := by simpa using u1
          rw [u2] at HW
          go_wp2
          go_ret2
          exact ⟨by rw [HF.out, HW.out]; rfl, rfl⟩
        · have u2 : decide (V < 2048) = false := by simpa using u1
          rw [u2] at HW
          by_cases u3 : 55296 ≤ V
          · have u4 : decide ((55296 : Int) ≤ V) = true := by simpa using u3
            rw [u4] at HW
            by_cases u5 : V < 57344
            · have u6 : decide (V < (57344 : Int)) = true := by simpa using u5
              rw [u6] at HW
              go_wp2
              go_ret2
              exact ⟨by rw [HF.out, HW.out]; rfl, rfl⟩
            · have u6 : decide (V < (57344 : Int)) = false := by simpa using u5
              rw [u6] at HW
              obtain ⟨b, hb⟩ : ∃ b, decide ((1114111 : Int) < V) = b := ⟨_, rfl⟩
              rw [hb] at HW
              cases b
              all_goals
                go_wp2
                go_ret2
                exact ⟨by rw [HF.out, HW.out]; rfl, rfl⟩
          · have u4 : decide ((55296 : Int) ≤ V) = false := by simpa using u3
            rw [u4] at HW
            have u7 : decide ((1114111 : Int) < V) = false := by simp; omega
            rw [u7] at HW
            go_wp2
            go_ret2
            exact ⟨by rw [HF.out, HW.out]; rfl, rfl⟩
set_option maxHeartbeats 3200000 in
set_option maxRecDepth 100000 in
theorem first_cls3 (s : ByteArray) (w : World) (hs : s.size ≤ maxLen) (h0 : 0 < s.size) (hb : 240 ≤ (s.get! 0).toNat ∧ (s.get! 0).toNat < 245) :
    Calls Tryz.prog 88 #[.string s] w fun e w' => e = .returned (.tuple #[.int .i64 (Lb.fstS s).1, .int .i64 ((Lb.fstS s).2 : Nat)]) ∧ w' = w := by
  unfold maxLen at hs
  have hc : Lb.Cls (s.get! 0).toNat 3 65536 240 := by unfold Lb.Cls; omega
  have HS := hideIt (fun h => Lb.fst_short hc h)
  have HT := hideIt (fun h => Lb.fst_stray hc h)
  have HV := hideIt (fun h => Lb.fst_val hc h)
  have g0 := get_idx s 0 h0
  obtain ⟨x, hx⟩ : ∃ x, (s[0]).toNat = x := ⟨_, rfl⟩
  rw [g0, hx] at hb HV
  obtain ⟨c1, c2⟩ := hb
  clear g0 hc
  obtain ⟨z, hz⟩ : ∃ z, s.size = z := ⟨_, rfl⟩
  have hzi : (s.size : Int) = (z : Int) := by rw [hz]
  obtain ⟨q1, q2, q3, q4, q5, q6, q7⟩ : FstC (x : Int) false true false true false true true := fstC_mk _ _ _ _ _ _ _ _ (by simp; omega)
  have b1 : (x : Int) < 256 := by omega
  have b2 : (240 : Int) ≤ (x : Int) := by omega
  by_cases hl : z ≤ 3
  · have d1 : decide ((z : Int) ≤ 3) = true := by simp; omega
    have HF := hideIt (HS.out (by omega))
    clear HS HT HV
    go_enter Tryz.func88, Tryz.ntmps88
    go_wp2
    go_ret2
    exact ⟨by rw [HF.out]; rfl, rfl⟩
  · have d1 : decide ((z : Int) ≤ 3) = false := by simp; omega
    have HT := hideIt (HT.out (by omega))
    have HV := hideIt (HV.out (by omega))
    have HB := hideIt (Lb.accV_bound s ((x : Int) - 240) (by omega) (by omega))
    clear HS
    go_enter Tryz.func88, Tryz.ntmps88
    go_wp2
    go_loop [7, 8] (fun v i => ∃ k : Nat, 1 ≤ k ∧ k ≤ 3 + 1 ∧ i = .int .i64 k ∧ v = .int .i64 (Lb.accV s ((x : Int) - 240) (k - 1)) ∧ ∀ j, j < k - 1 → Lb.cont (s.get! (j + 1)).toNat = true) (fun _ i => 3 + 1 - (intOf i).toNat)
    case atStart => exact ⟨1, by omega, by omega, rfl, rfl, fun j hj => by omega⟩
    case round =>
      obtain ⟨k, hk1, hk2, rfl, rfl, hall⟩ := hrel
      obtain ⟨r1, r2⟩ := HB.out (k - 1) hall
      have HA := hideIt (Lb.accV_next s ((x : Int) - 240) k hk1)
      have HL := hideIt hall
      clear hall
      obtain ⟨V, hV⟩ : ∃ V, Lb.accV s ((x : Int) - 240) (k - 1) = V := ⟨_, rfl⟩
      rw [hV] at HA r1 r2
      by_cases hkn : k ≤ 3
      · have d2 : (k : Int) ≤ 3 := by omega
        have d3 : decide ((k : Int) ≤ 3) = true := by simp; omega
        have hks : k < s.size := by omega
        have i1 : (k : Int) < (z : Int) := by omega
        have i0 : (0 : Int) ≤ (k : Int) := by omega
        have gk := get_idx s k hks
        obtain ⟨y, hy⟩ : ∃ y, (s[k]).toNat = y := ⟨_, rfl⟩
        rw [gk, hy] at HA
        have HC := hideIt (cont_of y rfl rfl)
        have y0 : (y : Int) < 256 := by have : (s[k]).toNat < 256 := UInt8.toNat_lt _; omega
        have v2 : V ≤ 200000 := by
          have : (64 : Int) ^ (k - 1) ≤ 64 ^ 2 := by
            have : k - 1 = 0 ∨ k - 1 = 1 ∨ k - 1 = 2 := by omega
            rcases this with e | e | e <;> rw [e] <;> decide
          omega
        have HG := hideIt (show Lb.cont (s.get! (k - 1 + 1)).toNat = Lb.cont y by rw [show k - 1 + 1 = k by omega, gk, hy])
        clear r2 gk
        by_cases y1 : y < 128
        · have y2 : decide ((y : Int) < 128) = true := by simp; omega
          have HF := hideIt (HT.out (k - 1) (by omega) (by rw [HG.out, HC.out, y2]; rfl))
          rw [hV]
          clear HT HV HB HC HG
          go_wp2
          go_ret2
          exact ⟨by rw [HF.out]; rfl, rfl⟩
        · have y2 : decide ((y : Int) < 128) = false := by simp; omega
          by_cases y3 : 191 < y
          · have y4 : decide ((191 : Int) < (y : Int)) = true := by simp; omega
            have HF := hideIt (HT.out (k - 1) (by omega) (by rw [HG.out, HC.out, y2, y4]; rfl))
            rw [hV]
            clear HT HV HB HC HG
            go_wp2
            go_ret2
            exact ⟨by rw [HF.out]; rfl, rfl⟩
          · have y4 : decide ((191 : Int) < (y : Int)) = false := by simp; omega
            have HF := hideIt (show Lb.cont y = true by rw [HC.out, y2, y4]; rfl)
            rw [hV]
            go_wp2
            go_round
            case rel =>
              refine ⟨k + 1, by omega, by omega, by go_num, ?_, ?_⟩
              · rw [Nat.add_sub_cancel, HA.out]; try rfl
              · intro j hj
                by_cases e : j = k - 1
                · rw [e, HG.out, HF.out]
                · exact HL.out j (by omega)
            case measure => simp [intOf]; omega
      · have d2 : ¬ (k : Int) ≤ 3 := by omega
        have d3 : decide ((k : Int) ≤ 3) = false := by simp; omega
        obtain rfl : k = 3 + 1 := by omega
        have HF := hideIt (HV.out (fun j hj => HL.out j (by omega)))
        rw [show 3 + 1 - 1 = 3 from rfl] at hV
        rw [hV] at HF
        have HW := hideIt (valC_of V 65536 (3 + 1) rfl rfl rfl rfl)
        rw [show 3 + 1 - 1 = 3 from rfl, hV]
        clear hV HA HL HT HV HB r2
        by_cases u1 : V < 65536
        · have u2 : decide (V < 65536) = true := by simpa using u1
          rw [u2] at HW
          go_wp2
          go_ret2
          exact ⟨by rw [HF.out, HW.out]; rfl, rfl⟩
        · have u2 : decide (V < 65536) = false := by simpa using u1
          rw [u2] at HW
          by_cases u3 : 55296 ≤ V
          · have u4 : decide ((55296 : Int) ≤ V) = true := by simpa using u3
            rw [u4] at HW
            by_cases u5 : V < 57344
            · have u6 : decide (V < (57344 : Int)) = true := by simpa using u5
              rw [u6] at HW
              go_wp2
              go_ret2
              exact ⟨by rw [HF.out, HW.out]; rfl, rfl⟩
            · have u6 : decide (V < (57344 : Int)) = false := by simpa using u5
              rw [u6] at HW
              obtain ⟨b, hb⟩ : ∃ b, decide ((1114111 : Int) < V) = b := ⟨_, rfl⟩
              rw [hb] at HW
              cases b
              all_goals
                go_wp2
                go_ret2
                exact ⟨by rw [HF.out, HW.out]; rfl, rfl⟩
          · have u4 : decide ((55296 : Int) ≤ V) = false := by simpa using u3
            rw [u4] at HW
            have u7 : decide ((1114111 : Int) < V) = false := by simp; omega
            rw [u7] at HW
            go_wp2
            go_ret2
            exact ⟨by rw [HF.out, HW.out]; rfl, rfl⟩
theorem first_any (s : ByteArray) (w : World) (h0 : 0 < s.size) (hs : s.size ≤ maxLen) :
    Calls Tryz.prog 88 #[.string s] w fun e w' => e = .returned (.tuple #[.int .i64 (Lb.refV (Utf8.decode s 0)), .int .i64 ((Utf8.decode s 0).2 : Nat)]) ∧ w' = w := by
  have e : Lb.fstS s = (Lb.refV (Utf8.decode s 0), (Utf8.decode s 0).2) := Lb.first_eq s
  have e1 : Lb.refV (Utf8.decode s 0) = (Lb.fstS s).1 := by rw [e]
  have e2 : (Utf8.decode s 0).2 = (Lb.fstS s).2 := by rw [e]
  rw [e1, e2]
  by_cases h1 : (s.get! 0).toNat < 194 ∨ 245 ≤ (s.get! 0).toNat
  · exact first_low s w h0 (by omega)
  · by_cases h2 : (s.get! 0).toNat < 224
    · exact first_cls1 s w hs h0 (by omega)
    · by_cases h3 : (s.get! 0).toNat < 240
      · exact first_cls2 s w hs h0 (by omega)
      · exact first_cls3 s w hs h0 (by omega)
end Go.Proofs.YtmjffngpaoaflaaGreatDoor
