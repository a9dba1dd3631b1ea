/- How many runes a text has, and which texts may be refs' names, as the program says it, walked. -/
import Derived.Test.YtmjffngpaoaflaaGreatDoorLbx
namespace Go.Proofs.YtmjffngpaoaflaaGreatDoor
open Go.RowKit
/-- The rune that stands for what is none, told as it stands there. -/
theorem pre_fffd (s : ByteArray) (pos : Nat) : pre (s.extract pos s.size) ⟨#[239, 191, 189]⟩ = (decide (3 ≤ s.size - pos) && decide ((s.get! pos).toNat = 239) && decide ((s.get! (pos + 1)).toNat = 191) && decide ((s.get! (pos + 2)).toNat = 189)) := by
  have hsz : (ByteArray.mk #[239, 191, 189]).size = 3 := rfl
  rw [pre, hsz, Lb.size_cut]
  by_cases h : 3 ≤ s.size - pos
  · have g : ∀ i, s.get! (pos + i) = (s.extract pos s.size).get! i := fun i => (Lb.get_cut s pos i).symm
    have g0 := g 0
    rw [Nat.add_zero] at g0
    rw [g0, g 1, g 2]
    have hz : (s.extract pos s.size).size = s.size - pos := Lb.size_cut s pos
    generalize s.extract pos s.size = a at *
    rw [Lb.get_list, Lb.get_list, Lb.get_list, ByteArray.toList_eq, ByteArray.toList_eq, ByteArray.data_extract]
    have hl : a.data.toList.length = a.size := str_len a
    have hx : (a.data.extract 0 3).toList = a.data.toList.take 3 := by simp [List.extract_eq_take_drop]
    rw [hx]
    generalize a.data.toList = l at *
    rcases l with _ | ⟨x, _ | ⟨y, _ | ⟨z, t⟩⟩⟩
    · simp at hl; omega
    · simp at hl; omega
    · simp at hl; omega
    · simp only [h, decide_true, Bool.true_and, List.take, List.getD_cons_zero, List.getD_cons_succ]
      have e : ∀ (u : UInt8) (n : Nat), n < 256 → decide (u.toNat = n) = (u == UInt8.ofNat n) := by
        intro u n hn
        by_cases hh : u = UInt8.ofNat n
        · subst hh; simp; omega
        · have : ¬ u.toNat = n := by intro k; apply hh; rw [← k]; simp
          simp [hh, this]
      rw [e x 239 (by omega), e y 191 (by omega), e z 189 (by omega)]
      show (x == 239 && (y == 191 && (z == 189 && true))) = _
      simp [Bool.and_assoc]
  · simp [h]
theorem bad_pre (s : ByteArray) (pos : Nat) (h : (Utf8.decode s pos).1 = 65533) : Lb.isBad (Utf8.decode s pos) = !pre (s.extract pos s.size) ⟨#[239, 191, 189]⟩ := by
  rw [pre_fffd]
  rw [Lib.decode_at] at h ⊢
  exact Lb.bad_prefix _ _ _ _ _ (UInt8.toNat_lt _) h
theorem isBad_no (d : Nat × Nat) (h : ¬ d.1 = 65533) : Lb.isBad d = false := by simp [Lb.isBad, h]
theorem count_step {s : ByteArray} {f pos a b n m : Nat} (h : pos < s.size) (hb : s.size ≤ pos + f) (e1 : a + Lb.good s f pos = n) (e2 : b + Lb.bad s f pos = m) :
    ∃ g, s.size ≤ pos + (Utf8.decode s pos).2 + g ∧ (Lb.isBad (Utf8.decode s pos) = true → a + Lb.good s g (pos + (Utf8.decode s pos).2) = n ∧ b + 1 + Lb.bad s g (pos + (Utf8.decode s pos).2) = m) ∧ (Lb.isBad (Utf8.decode s pos) = false → a + 1 + Lb.good s g (pos + (Utf8.decode s pos).2) = n ∧ b + Lb.bad s g (pos + (Utf8.decode s pos).2) = m) := by
  cases f with
  | zero => omega
  | succ f =>
    have := Lb.width_pos s pos h
    refine ⟨f, by omega, ?_⟩
    unfold Lb.good Lb.bad at *
    rw [Lb.runes_step s f pos h, List.countP_cons] at e1 e2
    constructor
    · intro hb
      simp only [hb] at e1 e2
      simp at e1 e2
      omega
    · intro hb
      simp only [hb] at e1 e2
      simp at e1 e2
      omega
set_option maxHeartbeats 1600000 in
set_option maxRecDepth 100000 in
theorem words_any (s : ByteArray) (w : World) (hs : s.size ≤ maxLen) :
    Calls Tryz.prog 73 #[.string s] w fun e w' => e = .returned (.tuple #[.int .i64 (Lb.good s s.size 0 : Nat), .int .i64 (Lb.bad s s.size 0 : Nat)]) ∧ Below w.heap.size w w' := by
  unfold maxLen at hs
  obtain ⟨n, hn⟩ : ∃ n, Lb.good s s.size 0 = n := ⟨_, rfl⟩
  obtain ⟨m, hm⟩ : ∃ m, Lb.bad s s.size 0 = m := ⟨_, rfl⟩
  rw [hn, hm]
  have HN := hideIt hn
  have HM := hideIt hm
  clear hn hm
  go_enter Tryz.func73, Tryz.ntmps73
  go_wp2
  go_loopw [4, 5, 6, 7] (fun u v _ _ wr => ∃ pos f a b : Nat, wr = w.iter s pos ∧ u = .int .i64 a ∧ v = .int .i64 b ∧ a ≤ pos ∧ b ≤ pos ∧ s.size ≤ pos + f ∧ a + Lb.good s f pos = n ∧ b + Lb.bad s f pos = m) (fun _ _ _ _ wr => s.size - wr.iterPos w.heap.size)
  case atStart => exact ⟨0, s.size, 0, 0, rfl, rfl, rfl, by omega, by omega, by omega, by rw [HN.out]; omega, by rw [HM.out]; omega⟩
  case round =>
    obtain ⟨pos, f, a, b, rfl, rfl, rfl, ha, hb, hf, h1, h2⟩ := hrel
    by_cases hp : pos < s.size
    · obtain ⟨g, hg, heb, heg⟩ := count_step hp hf h1 h2
      have hw := Lb.width_pos s pos hp
      have hbp := bad_pre s pos
      have hbn := isBad_no (Utf8.decode s pos)
      have hnx : ∀ ty, (Instr.next (.pointer (some ⟨w.heap.size, 0, none⟩)) true ty).run Tryz.prog (w.iter s pos) = _ := fun ty => run_next_any w s pos ty hp
      obtain ⟨d, hd⟩ : ∃ d, Utf8.decode s pos = d := ⟨_, rfl⟩
      rw [hd] at hg heb heg hw hbp hbn
      simp only [hd] at hnx
      obtain ⟨x, k⟩ := d
      simp only at hg heb heg hw hnx hbp hbn
      have HP := hideIt (hasPrefix_any (s.extract pos s.size) ⟨#[239, 191, 189]⟩)
      have HEB := hideIt heb
      have HEG := hideIt heg
      clear hd heb heg hf h1 h2
      have b0 : (0 : Int) ≤ (pos : Int) := by omega
      have b1 : (pos : Int) ≤ (s.size : Int) := by omega
      have b2 : (a : Int) + 1 ≤ 9223372036854775807 := by omega
      have b3 : (b : Int) + 1 ≤ 9223372036854775807 := by omega
      by_cases hx : x = 65533
      · have c1 : ((x : Int) == 65533) = true := by simp; omega
        have hbb := hbp hx
        clear hbp hbn
        obtain ⟨y, hy⟩ : ∃ y, pre (s.extract pos s.size) ⟨#[239, 191, 189]⟩ = y := ⟨_, rfl⟩
        rw [hy] at HP hbb
        clear hy
        cases y
        · have HE := hideIt (HEB.out hbb)
          clear hbb HEB HEG
          go_wp2_with (first | (go_at_call 75; refine (HP.out _).mono ?_; rintro e wx ⟨rfl, hwx⟩; obtain rfl := hwx.symm))
          go_roundw
          case rel => exact ⟨pos + k, g, a, b + 1, rfl, rfl, by go_num, by omega, by omega, hg, HE.out.1, HE.out.2⟩
          case measure => simp; omega
        · have HE := hideIt (HEG.out hbb)
          clear hbb HEB HEG
          go_wp2_with (first | (go_at_call 75; refine (HP.out _).mono ?_; rintro e wx ⟨rfl, hwx⟩; obtain rfl := hwx.symm))
          go_roundw
          case rel => exact ⟨pos + k, g, a + 1, b, rfl, by go_num, rfl, by omega, by omega, hg, HE.out.1, HE.out.2⟩
          case measure => simp; omega
      · have c1 : ((x : Int) == 65533) = false := by simp; omega
        have HE := hideIt (HEG.out (hbn hx))
        clear hbp hbn HEB HEG
        go_wp2
        go_roundw
        case rel => exact ⟨pos + k, g, a + 1, b, rfl, by go_num, rfl, by omega, by omega, hg, HE.out.1, HE.out.2⟩
        case measure => simp; omega
    · have hnx : ∀ ty, (Instr.next (.pointer (some ⟨w.heap.size, 0, none⟩)) true ty).run Tryz.prog (w.iter s pos) = _ := fun ty => run_next_end w s pos ty hp
      have e1 : a = n := by rw [Lb.good, Lb.runes_end s f pos hp] at h1; simpa using h1
      have e2 : b = m := by rw [Lb.bad, Lb.runes_end s f pos hp] at h2; simpa using h2
      subst e1 e2
      clear h1 h2 HN HM
      go_wp2
      go_ret2
      exact ⟨rfl, below_iter _ _ _⟩
set_option maxHeartbeats 1600000 in
set_option maxRecDepth 100000 in
theorem standsIn_any (s p : ByteArray) (w : World) :
    Calls Tryz.prog 98 #[.string s, .string p] w fun e w' => e = .returned (.bool (pre s p && okRef (s.extract p.size s.size))) ∧ Below w.heap.size w w' := by
  have HC := hideIt (fun w => cutPrefix_any s p w)
  obtain ⟨y, hy⟩ : ∃ y, pre s p = y := ⟨_, rfl⟩
  rw [hy] at HC ⊢
  clear hy
  cases y
  · simp only [Bool.false_and]
    simp only [Bool.false_eq_true, if_false] at HC
    go_enter Tryz.func98, Tryz.ntmps98
    go_wp2_with (first | (go_at_call 76; refine (HC.out _).mono ?_; rintro e wx ⟨rfl, hwx⟩; obtain rfl := hwx.symm))
    go_ret
    exact ⟨rfl, Below.refl _ _⟩
  · simp only [Bool.true_and]
    simp only [if_true] at HC
    obtain ⟨o, ho⟩ : ∃ o, s.extract p.size s.size = o := ⟨_, rfl⟩
    rw [ho] at HC ⊢
    clear ho
    obtain ⟨e1, e2, _, _⟩ := seg_cmp o
    have HD : Hid (okRef o = (!(o.data.toList == []) && (!decide ((64 : Int) < (o.size : Int)) && (Lb.runes o).all (fun d => refI (d.1 : Int))))) := hideIt (by
      have := runes_ref o o.size 0 (by omega)
      rw [List.drop_zero] at this
      have e : decide ((64 : Int) < (o.size : Int)) = decide (64 < o.size) := by apply decide_eq_decide.2; omega
      rw [okRef, Lb.runes, this, str_len, e])
    obtain ⟨m, hm⟩ : ∃ m : Int, (o.size : Int) = m := ⟨_, rfl⟩
    rw [hm] at HD
    generalize hx1 : (o.data.toList == []) = x1 at *
    generalize hx4 : decide ((64 : Int) < m) = x4 at *
    clear hx1
    cases x1 <;> cases x4
    case false.false =>
      have HD' : Hid (okRef o = (Lb.runes o).all (fun d => refI (d.1 : Int))) := hideIt (by rw [HD.out]; simp)
      clear HD
      go_enter Tryz.func98, Tryz.ntmps98
      go_wp2_with (first | (go_at_call 76; refine (HC.out _).mono ?_; rintro e wx ⟨rfl, hwx⟩; obtain rfl := hwx.symm))
      go_loopw [8] (fun _ wr => ∃ pos f : Nat, wr = w.iter o pos ∧ o.size ≤ pos + f ∧ (Lb.runesF o f pos).all (fun d => refI (d.1 : Int)) = okRef o) (fun _ wr => o.size - wr.iterPos w.heap.size)
      case atStart => exact ⟨0, o.size, rfl, by omega, by rw [HD'.out]; rfl⟩
      case round =>
        obtain ⟨pos, f, rfl, hf, hr⟩ := hrel
        by_cases hp : pos < o.size
        · obtain ⟨g, hg, he⟩ := all_step hp hf hr
          have hw := Lb.width_pos o pos hp
          have hnx : ∀ ty, (Instr.next (.pointer (some ⟨w.heap.size, 0, none⟩)) true ty).run Tryz.prog (w.iter o pos) = _ := fun ty => run_next_any w o pos ty hp
          obtain ⟨d, hd⟩ : ∃ d, Utf8.decode o pos = d := ⟨_, rfl⟩
          rw [hd] at hg he hw
          simp only [hd] at hnx
          obtain ⟨x, k⟩ := d
          simp only at hg he hw hnx
          have HB := hideIt (ofRefs_any x)
          have HE := hideIt he
          clear hd he hr hf
          generalize refI (x : Int) = b at *
          cases b
          · go_wp2_with (first | (go_at_call 119; refine (HB.out _).mono ?_; rintro e wx ⟨rfl, hwx⟩; obtain rfl := hwx.symm))
            go_ret
            exact ⟨by rw [← HE.out]; rfl, below_iter _ _ _⟩
          · go_wp2_with (first | (go_at_call 119; refine (HB.out _).mono ?_; rintro e wx ⟨rfl, hwx⟩; obtain rfl := hwx.symm))
            go_roundw
            case rel => exact ⟨pos + k, g, rfl, hg, by simpa using HE.out⟩
            case measure => simp; omega
        · have hnx : ∀ ty, (Instr.next (.pointer (some ⟨w.heap.size, 0, none⟩)) true ty).run Tryz.prog (w.iter o pos) = _ := fun ty => run_next_end w o pos ty hp
          have HE := hideIt hr
          clear hr
          go_wp2
          go_ret
          exact ⟨by rw [← HE.out, Lb.runes_end o f pos hp]; rfl, below_iter _ _ _⟩
    all_goals
      have HD' : Hid (okRef o = false) := hideIt (by rw [HD.out]; simp)
      clear HD
      go_enter Tryz.func98, Tryz.ntmps98
      go_wp2_with (first | (go_at_call 76; refine (HC.out _).mono ?_; rintro e wx ⟨rfl, hwx⟩; obtain rfl := hwx.symm))
      go_ret
      exact ⟨by rw [HD'.out]; try rfl, Below.refl _ _⟩
def headS : ByteArray := ⟨#[104, 101, 97, 100, 115, 47]⟩
def headB (s : ByteArray) : Bool := pre s headS && okRef (s.extract 6 s.size)
theorem head_any (s : ByteArray) (w : World) : Calls Tryz.prog 97 #[.string s] w fun e w' => e = .returned (.bool (headB s)) ∧ Below w.heap.size w w' := by
  have H := hideIt (fun w => standsIn_any s headS w)
  have e : (pre s headS && okRef (s.extract headS.size s.size)) = headB s := rfl
  rw [e] at H
  clear e
  unfold headS at H
  go_enter Tryz.func97, Tryz.ntmps97
  go_wp2_with (first | (go_at_call 98; refine (H.out _).mono ?_; rintro e wx ⟨rfl, hb⟩))
  go_ret
  exact ⟨rfl, hb⟩
end Go.Proofs.YtmjffngpaoaflaaGreatDoor
