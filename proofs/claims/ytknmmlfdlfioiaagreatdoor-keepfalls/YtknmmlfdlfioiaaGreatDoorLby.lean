/- How many runes a text has, and which texts may be refs' names, as the program says it, walked. -/
import Derived.Test.YtknmmlfdlfioiaaGreatDoorLbx
namespace Go.Proofs.YtknmmlfdlfioiaaGreatDoor
open Go.RowKit
/-- The rune that stands for what is none, told as it stands there. -/
theorem pre_fffd (s : ByteArray) (pos : Nat) : pre (s.extract pos s.size) ⟨#[239, 191, 189]⟩ = (decide (3 ≤ s.size - pos) && decide ((s.get! pos).toNat = 239) && decide ((s.get! (pos + 1)).toNat = 191) && decide ((s.get! (pos + 2)).toNat = 189)) := by
  have hsz : (ByteArray.mk #[239, 191, 189]).size = 3 := rfl
  rw [pre, hsz, Lb.size_cut]
  by_cases h : 3 ≤ s.size - pos
  · have g : ∀ i, s.get! (pos + i) = (s.extract pos s.size).get! i := fun i => (Lb.get_cut s pos i).symm
    have g0 := g 0
    rw [Nat.add_zero] at g0
    rw [g0, g 1, g 2]
    have hz : (s.extract pos s.size).size = s.size - pos := Lb.size_cut s pos
    generalize s.extract pos s.size = a at *
    rw [Lb.get_list, Lb.get_list, Lb.get_list, ByteArray.toList_eq, ByteArray.toList_eq, ByteArray.data_extract]
    have hl : a.data.toList.length = a.size := str_len a
    have hx : (a.data.extract 0 3).toList = a.data.toList.take 3 := by simp [List.extract_eq_take_drop]
    rw [hx]
    generalize a.data.toList = l at *
    rcases l with _ | ⟨x, _ | ⟨y, _ | ⟨z, t⟩⟩⟩
    · simp at hl; omega
    · simp at hl; omega
    · simp at hl; omega
    · simp only [h, decide_true, Bool.true_and, List.take, List.getD_cons_zero, List.getD_cons_succ]
      have e : ∀ (u : UInt8) (n : Nat), n < 256 → decide (u.toNat = n) = (u == UInt8.ofNat n) := by
        intro u n hn
        by_cases hh : u = UInt8.ofNat n
        · subst hh; simp; omega
        · have : ¬ u.toNat = n := by intro k; apply hh; rw [← k]; simp
          simp [hh, this]
      rw [e x 239 (by omega), e y 191 (by omega), e z 189 (by omega)]
      show (x == 239 && (y == 191 && (z == 189 && true))) = _
      simp [Bool.and_assoc]
  · simp [h]
theorem bad_pre (s : ByteArray) (pos : Nat) (h : (Utf8.decode s pos).1 = 65533) : Lb.isBad (Utf8.decode s pos) = !pre (s.extract pos s.size) ⟨#[239, 191, 189]⟩ := by
  rw [pre_fffd]
  rw [Lib.decode_at] at h ⊢
  exact Lb.bad_prefix _ _ _ _ _ (UInt8.toNat_lt _) h
theorem isBad_no (d : Nat × Nat) (h : ¬ d.1 = 65533) : Lb.isBad d = false := by simp [Lb.isBad, h]
theorem count_step {s : ByteArray} {f pos a b n m : Nat} (h : pos < s.size) (hb : s.size ≤ pos + f) (e1 : a + Lb.good s f pos = n) (e2 : b + Lb.bad s f pos = m) :
    ∃ g, s.size ≤ pos + (Utf8.decode s pos).2 + g ∧ (Lb.isBad (Utf8.decode s pos) = true → a + Lb.good s g (pos + (Utf8.decode s pos).2) = n ∧ b + 1 + Lb.bad s g (pos + (Utf8.decode s pos).2) = m) ∧ (Lb.isBad (Utf8.decode s pos) = false → a + 1 + Lb.good s g (pos + (Utf8.decode s pos).2) = n ∧ b + Lb.bad s g (pos + (Utf8.decode s pos).2) = m) := by
  cases f with
  | zero => omega
  | succ f =>
    have := Lb.width_pos s pos h
    refine ⟨f, by omega, ?_⟩
    unfold Lb.good Lb.bad at *
    rw [Lb.runes_step s f pos h, List.countP_cons] at e1 e2
    constructor
    · intro hb
      simp only [hb] at e1 e2
      simp at e1 e2
      omega
    · intro hb
      simp only [hb] at e1 e2
      simp at e1 e2
      omega
set_option maxHeartbeats 1600000 in
set_option maxRecDepth 100000 in
theorem standsIn_any (s p : ByteArray) (w : World) :
    Calls Tryz.prog 84 #[.string s, .string p] w fun e w' => e = .returned (.bool (pre s p && okRef (s.extract p.size s.size))) ∧ Below w.heap.size w w' := by
  have HC := hideIt (fun w => cutPrefix_any s p w)
  obtain ⟨y, hy⟩ : ∃ y, pre s p = y := ⟨_, rfl⟩
  rw [hy] at HC ⊢
  clear hy
  cases y
  · simp only [Bool.false_and]
    simp only [Bool.false_eq_true, if_false] at HC
    go_enter Tryz.func84, Tryz.ntmps84
    go_wp2_with (first | (go_at_call 106; refine (HC.out _).mono ?_; rintro e wx ⟨rfl, hwx⟩; obtain rfl := hwx.symm))
    go_ret
    exact ⟨rfl, Below.refl _ _⟩
  · simp only [Bool.true_and]
    simp only [if_true] at HC
    obtain ⟨o, ho⟩ : ∃ o, s.extract p.size s.size = o := ⟨_, rfl⟩
    rw [ho] at HC ⊢
    clear ho
    obtain ⟨e1, e2, _, _⟩ := seg_cmp o
    have HD : Hid (okRef o = (!(o.data.toList == []) && (!decide ((64 : Int) < (o.size : Int)) && (Lb.runes o).all (fun d => refI (d.1 : Int))))) := hideIt (by
      have := runes_ref o o.size 0 (by omega)
      rw [List.drop_zero] at this
      have e : decide ((64 : Int) < (o.size : Int)) = decide (64 < o.size) := by apply decide_eq_decide.2; omega
      rw [okRef, Lb.runes, this, str_len, e])
    obtain ⟨m, hm⟩ : ∃ m : Int, (o.size : Int) = m := ⟨_, rfl⟩
    rw [hm] at HD
    generalize hx1 : (o.data.toList == []) = x1 at *
    generalize hx4 : decide ((64 : Int) < m) = x4 at *
    clear hx1
    cases x1 <;> cases x4
    case false.false =>
      have HD' : Hid (okRef o = (Lb.runes o).all (fun d => refI (d.1 : Int))) := hideIt (by rw [HD.out]; simp)
      clear HD
      go_enter Tryz.func84, Tryz.ntmps84
      go_wp2_with (first | (go_at_call 106; refine (HC.out _).mono ?_; rintro e wx ⟨rfl, hwx⟩; obtain rfl := hwx.symm))
      go_loopw [8] (fun _ wr => ∃ pos f : Nat, wr = w.iter o pos ∧ o.size ≤ pos + f ∧ (Lb.runesF o f pos).all (fun d => refI (d.1 : Int)) = okRef o) (fun _ wr => o.size - wr.iterPos w.heap.size)
      case atStart => exact ⟨0, o.size, rfl, by omega, by rw [HD'.out]; rfl⟩
      case round =>
        obtain ⟨pos, f, rfl, hf, hr⟩ := hrel
        by_cases hp : pos < o.size
        · obtain ⟨g, hg, he⟩ := all_step hp hf hr
          have hw := Lb.width_pos o pos hp
          have hnx : ∀ ty, (Instr.next (.pointer (some ⟨w.heap.size, 0, none⟩)) true ty).run Tryz.prog (w.iter o pos) = _ := fun ty => run_next_any w o pos ty hp
          obtain ⟨d, hd⟩ : ∃ d, Utf8.decode o pos = d := ⟨_, rfl⟩
          rw [hd] at hg he hw
          simp only [hd] at hnx
          obtain ⟨x, k⟩ := d
          simp only at hg he hw hnx
          have HB := hideIt (ofRefs_any x)
          have HE := hideIt he
          clear hd he hr hf
          generalize refI (x : Int) = b at *
          cases b
          · go_wp2_with (first | (go_at_call 107; refine (HB.out _).mono ?_; rintro e wx ⟨rfl, hwx⟩; obtain rfl := hwx.symm))
            go_ret
            exact ⟨by rw [← HE.out]; rfl, below_iter _ _ _⟩
          · go_wp2_with (first | (go_at_call 107; refine (HB.out _).mono ?_; rintro e wx ⟨rfl, hwx⟩; obtain rfl := hwx.symm))
            go_roundw
            case rel => exact ⟨pos + k, g, rfl, hg, by simpa using HE.out⟩
            case measure => simp; omega
        · have hnx : ∀ ty, (Instr.next (.pointer (some ⟨w.heap.size, 0, none⟩)) true ty).run Tryz.prog (w.iter o pos) = _ := fun ty => run_next_end w o pos ty hp
          have HE := hideIt hr
          clear hr
          go_wp2
          go_ret
          exact ⟨by rw [← HE.out, Lb.runes_end o f pos hp]; rfl, below_iter _ _ _⟩
    all_goals
      have HD' : Hid (okRef o = false) := hideIt (by rw [HD.out]; simp)
      clear HD
      go_enter Tryz.func84, Tryz.ntmps84
      go_wp2_with (first | (go_at_call 106; refine (HC.out _).mono ?_; rintro e wx ⟨rfl, hwx⟩; obtain rfl := hwx.symm))
      go_ret
      exact ⟨by rw [HD'.out]; try rfl, Below.refl _ _⟩
def headS : ByteArray := ⟨#[104, 101, 97, 100, 115, 47]⟩
def headB (s : ByteArray) : Bool := pre s headS && okRef (s.extract 6 s.size)
theorem head_any (s : ByteArray) (w : World) : Calls Tryz.prog 60 #[.string s] w fun e w' => e = .returned (.bool (headB s)) ∧ Below w.heap.size w w' := by
  have H := hideIt (fun w => standsIn_any s headS w)
  have e : (pre s headS && okRef (s.extract headS.size s.size)) = headB s := rfl
  rw [e] at H
  clear e
  unfold headS at H
  go_enter Tryz.func60, Tryz.ntmps60
  go_wp2_with (first | (go_at_call 84; refine (H.out _).mono ?_; rintro e wx ⟨rfl, hb⟩))
  go_ret
  exact ⟨rfl, hb⟩
end Go.Proofs.YtknmmlfdlfioiaaGreatDoor
