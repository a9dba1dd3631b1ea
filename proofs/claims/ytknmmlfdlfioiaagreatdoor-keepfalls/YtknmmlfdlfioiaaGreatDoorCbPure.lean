/- Digits and numbers of layer 2 as plain lists: what the walks' answers are told by. -/
import Derived.Test.YtknmmlfdlfioiaaGreatDoorRows
namespace Go.Proofs.YtknmmlfdlfioiaaGreatDoor.Cb
namespace Cd
/-- The letter of a digit. -/
def dig (n : Nat) : UInt8 := if n < 10 then UInt8.ofNat (48 + n) else UInt8.ofNat (87 + n)
def hexL : List UInt8 → List UInt8
  | [] => []
  | b :: t => dig (b.toNat / 16) :: dig (b.toNat % 16) :: hexL t
/-- The number of a digit; 16: it is none. -/
def val (b : UInt8) : Nat := if 48 ≤ b.toNat ∧ b.toNat ≤ 57 then b.toNat - 48 else if 97 ≤ b.toNat ∧ b.toNat ≤ 102 then b.toNat - 87 else 16
def unhexL : List UInt8 → Option (List UInt8)
  | [] => some []
  | [_] => none
  | a :: b :: t => if val a < 16 ∧ val b < 16 then (unhexL t).map (fun r => UInt8.ofNat (16 * val a + val b) :: r) else none
theorem hexL_len : ∀ l : List UInt8, (hexL l).length = 2 * l.length
  | [] => rfl
  | _ :: t => by simp only [hexL, List.length_cons, hexL_len t]; omega
theorem hexL_append : ∀ a b : List UInt8, hexL (a ++ b) = hexL a ++ hexL b
  | [], _ => rfl
  | _ :: t, b => by simp only [hexL, List.cons_append, hexL_append t b]
theorem val_dig : ∀ n, n < 16 → val (dig n) = n := by decide
theorem unhex_hex : ∀ l : List UInt8, unhexL (hexL l) = some l
  | [] => rfl
  | b :: t => by
    have h := b.toNat_lt
    rw [hexL, unhexL, val_dig _ (by omega), val_dig _ (by omega), if_pos (by omega), unhex_hex t]
    simp only [Option.map_some]
    congr 2
    rw [show 16 * (b.toNat / 16) + b.toNat % 16 = b.toNat by omega]
    exact UInt8.ofNat_toNat
/-- What comes behind a number's last byte, read backwards. -/
def more (n : Nat) : List UInt8 :=
  if _h : n < 128 then [] else UInt8.ofNat (128 + (n / 128 - 1) % 128) :: more (n / 128 - 1)
  termination_by n
  decreasing_by omega
def numR (n : Nat) : List UInt8 := UInt8.ofNat (n % 128) :: more n
def numL (n : Nat) : List UInt8 := (numR n).reverse
theorem more_small {n : Nat} (h : n < 128) : more n = [] := by rw [more, dif_pos h]
theorem more_big {n : Nat} (h : ¬ n < 128) : more n = UInt8.ofNat (128 + (n / 128 - 1) % 128) :: more (n / 128 - 1) := by rw [more, dif_neg h]
/-- The number at the beginning: how many may be read yet, how many were, what they make. -/
def unL : Nat → Nat → Nat → List UInt8 → Nat × Nat × Nat
  | 0, _, _, _ => (0, 0, 6)
  | _ + 1, _, _, [] => (0, 0, 4)
  | k + 1, i, c, b :: t => if b.toNat < 128 then (c * 128 + b.toNat, i + 1, 0) else unL k (i + 1) (c * 128 + b.toNat % 128 + 1) t
def unnum (l : List UInt8) : Nat × Nat × Nat := unL 9 0 0 l
theorem more_len : ∀ (k n : Nat), n < 128 ^ (k + 1) → (more n).length ≤ k
  | 0, n, h => by rw [more_small (by omega)]; simp
  | k + 1, n, h => by
    by_cases hn : n < 128
    · rw [more_small hn]; simp
    · rw [more_big hn, List.length_cons]
      have := more_len k (n / 128 - 1) (by rw [Nat.pow_succ] at h; omega)
      omega
def accL (l : List UInt8) : Nat := l.foldl (fun c b => c * 128 + b.toNat % 128 + 1) 0
theorem byte_hi (x : Nat) : (UInt8.ofNat (128 + x % 128)).toNat = 128 + x % 128 := by rw [UInt8.toNat_ofNat']; omega
theorem byte_lo (x : Nat) : (UInt8.ofNat (x % 128)).toNat = x % 128 := by rw [UInt8.toNat_ofNat']; omega
theorem acc_more (n : Nat) : accL (more n).reverse * 128 + n % 128 = n := by
  by_cases hn : n < 128
  · rw [more_small hn]; simp [accL]; omega
  · have ih := acc_more (n / 128 - 1)
    rw [more_big hn, List.reverse_cons, accL, List.foldl_append, ← accL]
    simp only [List.foldl_cons, List.foldl_nil, byte_hi]
    omega
  termination_by n
  decreasing_by omega
theorem more_hi (n : Nat) : ∀ b ∈ more n, 128 ≤ b.toNat := by
  by_cases hn : n < 128
  · rw [more_small hn]; simp
  · have ih := more_hi (n / 128 - 1)
    rw [more_big hn]
    intro b hb
    rcases List.mem_cons.1 hb with rfl | hb
    · rw [byte_hi]; omega
    · exact ih b hb
  termination_by n
  decreasing_by omega
theorem unL_hi : ∀ (l : List UInt8) (k i c : Nat) (r : List UInt8), (∀ b ∈ l, 128 ≤ b.toNat) → l.length ≤ k →
    unL k i c (l ++ r) = unL (k - l.length) (i + l.length) (l.foldl (fun c b => c * 128 + b.toNat % 128 + 1) c) r
  | [], k, i, c, r, _, _ => by simp
  | b :: t, 0, i, c, r, _, hk => by simp at hk
  | b :: t, k + 1, i, c, r, h, hk => by
    have hb := h b (by simp)
    have ih := unL_hi t k (i + 1) (c * 128 + b.toNat % 128 + 1) r (fun x hx => h x (by simp [hx])) (by simp at hk; omega)
    rw [List.cons_append, unL, if_neg (by omega), ih]
    simp only [List.length_cons, List.foldl_cons]
    congr 1 <;> omega
theorem unnum_num (n : Nat) (h : n < 9223372036854775808) (r : List UInt8) : unnum (numL n ++ r) = (n, (numL n).length, 0) := by
  have hl : (more n).length ≤ 8 := more_len 8 n (by omega)
  have hm := acc_more n
  rw [unnum, numL, numR, List.reverse_cons, List.append_assoc, unL_hi _ _ _ _ _ (fun b hb => more_hi n b (by simpa using hb)) (by simp; omega), ← accL]
  simp only [List.length_reverse, List.cons_append, List.nil_append, List.length_append, List.length_cons, List.length_nil]
  obtain ⟨j, hj⟩ : ∃ j, 9 - (more n).length = j + 1 := ⟨8 - (more n).length, by omega⟩
  rw [hj, unL, byte_lo, if_pos (by omega), hm]
  congr 2
  omega
theorem num_acc : ∀ (l : List UInt8) (d : Nat), (∀ b ∈ l, 128 ≤ b.toNat) → d < 128 → more (accL l.reverse * 128 + d) = l
  | [], d, _, hd => by simp only [List.reverse_nil, accL, List.foldl_nil]; exact more_small (by omega)
  | b :: t, d, h, hd => by
    have hb := h b (by simp)
    have hbl := b.toNat_lt
    have ih := num_acc t (b.toNat % 128) (fun x hx => h x (by simp [hx])) (by omega)
    have e : accL (b :: t).reverse = accL t.reverse * 128 + b.toNat % 128 + 1 := by
      rw [List.reverse_cons, accL, List.foldl_append, ← accL]; simp
    rw [more_big (by omega), e, show ((accL t.reverse * 128 + b.toNat % 128 + 1) * 128 + d) / 128 - 1 = accL t.reverse * 128 + b.toNat % 128 by omega, ih]
    congr 1
    rw [show 128 + (accL t.reverse * 128 + b.toNat % 128) % 128 = b.toNat by omega]
    exact UInt8.ofNat_toNat
/-- A number that is read has just these bytes. -/
theorem unL_form : ∀ (k i c : Nat) (p l : List UInt8) (n j : Nat), (∀ b ∈ p, 128 ≤ b.toNat) → i = p.length → c = accL p → unL k i c l = (n, j, 0) →
    numL n = (p ++ l).take j ∧ j ≤ p.length + l.length
  | 0, i, c, p, l, n, j, _, _, _, h => by simp [unL] at h
  | k + 1, i, c, p, [], n, j, _, _, _, h => by simp [unL] at h
  | k + 1, i, c, p, b :: t, n, j, hp, hi, hc, h => by
    rw [unL] at h
    by_cases hb : b.toNat < 128
    · rw [if_pos hb] at h
      simp only [Prod.mk.injEq] at h
      obtain ⟨rfl, rfl, _⟩ := h
      subst hi hc
      have e := num_acc p.reverse b.toNat (fun x hx => hp x (by simpa using hx)) hb
      rw [List.reverse_reverse] at e
      constructor
      · rw [numL, numR, e, List.reverse_cons, List.reverse_reverse, show (accL p * 128 + b.toNat) % 128 = b.toNat by omega, UInt8.ofNat_toNat]
        rw [List.take_append, List.take_of_length_le (by omega)]
        simp
      · simp
    · rw [if_neg hb] at h
      have := unL_form k (i + 1) _ (p ++ [b]) t n j (fun x hx => by
        rcases List.mem_append.1 hx with hx | hx
        · exact hp x hx
        · simp at hx; subst hx; omega) (by simp [hi]) (by rw [accL, List.foldl_append, ← accL, ← hc]; simp) h
      simpa [Nat.add_assoc, Nat.add_comm, Nat.add_left_comm] using this
theorem unnum_form {l : List UInt8} {n j : Nat} (h : unnum l = (n, j, 0)) : numL n = l.take j ∧ j ≤ l.length := by
  simpa using unL_form 9 0 0 [] l n j (by simp) rfl rfl h
end Cd
end Go.Proofs.YtknmmlfdlfioiaaGreatDoor.Cb
