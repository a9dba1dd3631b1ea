/- The law TreeReads, walked. -/
import Derived.Test.YtfpnepjdcgghgaaTx
namespace Go.Proofs.Ytfpnepjdcgghgaa
open Go.RowKit Go.Shelf
theorem decF_chk : ∀ (f : Nat) (acc : List En) (s : List UInt8) (m : List En), decF f acc s = (0, m) → chk m = 0
  | 0, acc, s, m, h => by
    rw [decF, fin] at h
    simp only [Prod.mk.injEq] at h
    obtain ⟨h1, h2⟩ := h
    rw [if_pos h1] at h2
    rw [← h2]; exact h1
  | f + 1, acc, s, m, h => by
    rw [decF] at h
    by_cases hs : s = []
    · rw [if_pos hs, fin] at h
      simp only [Prod.mk.injEq] at h
      obtain ⟨h1, h2⟩ := h
      rw [if_pos h1] at h2
      rw [← h2]; exact h1
    · rw [if_neg hs] at h
      cases hr : rd s with
      | err e =>
        rw [hr] at h
        simp only [Prod.mk.injEq] at h
        have := rd_err s e hr
        omega
      | ok x r =>
        rw [hr] at h
        dsimp only at h
        by_cases ha : acc.length = 256
        · rw [if_pos ha] at h
          simp at h
        · rw [if_neg ha] at h
          exact decF_chk f _ _ m h
theorem fin_few (acc : List En) : (fin acc).2.length ≤ 256 := by
  unfold fin
  by_cases h : chk acc = 0
  · rw [if_pos h]; exact (chk_wf acc h).1
  · rw [if_neg h]; simp
theorem decF_few : ∀ (f : Nat) (acc : List En) (s : List UInt8), (decF f acc s).2.length ≤ 256
  | 0, acc, s => fin_few acc
  | f + 1, acc, s => by
    rw [decF]
    by_cases hs : s = []
    · rw [if_pos hs]; exact fin_few acc
    · rw [if_neg hs]
      cases hr : rd s with
      | err e => simp
      | ok x r =>
        dsimp only
        by_cases ha : acc.length = 256
        · rw [if_pos ha]; simp
        · rw [if_neg ha]; exact decF_few f _ _
def cutS (s : ByteArray) : ByteArray := if 3000 < s.size then s.extract 0 3000 else s
theorem cutS_size (s : ByteArray) : (cutS s).size ≤ 3000 := by
  unfold cutS
  by_cases h : 3000 < s.size
  · rw [if_pos h, ByteArray.size_extract]; omega
  · rw [if_neg h]; omega
theorem bs_of (s : ByteArray) : ∃ L, s = bs L := ⟨s.data.toList, (bs_data s).symm⟩
theorem ERow.slice {w : World} {v : Value} {l : List En} (h : ERow w v l) : ∃ a c, v = .slice a l.length c := by
  obtain ⟨a, c, h, _⟩ := h
  exact ⟨a, c, h⟩
theorem ERow.sliceN {w : World} {v : Value} {l : List En} {n : Nat} (h : ERow w v l) (hn : l.length = n) : ∃ a c, v = .slice a n c := by
  obtain ⟨a, c, h, _⟩ := h
  exact ⟨a, c, by rw [h, hn]⟩
theorem ERow.cellsAt {w : World} {a : Option Addr} {n c : Nat} {l : List En} (h : ERow w (.slice a n c) l) {i : Nat} {x : En} (hx : l[i]? = some x) : ∃ b o, a = some ⟨b, o, none⟩ ∧ w.cell? ⟨b, o + i * 3, none⟩ = some (.string x.nm) ∧ w.cell? ⟨b, o + i * 3 + 1, none⟩ = some (.int .i64 x.md) ∧ w.cell? ⟨b, o + i * 3 + 2, none⟩ = some (.string x.ids) := by
  obtain ⟨a', c', e, _, _, hr⟩ := h
  simp only [Value.slice.injEq] at e
  obtain ⟨rfl, -, -⟩ := e
  obtain ⟨b, o, rfl, hc⟩ := hr (by have := (List.getElem?_eq_some_iff.1 hx).1; omega)
  exact ⟨b, o, rfl, hc.2 i x hx⟩
set_option maxHeartbeats 3200000 in
set_option maxRecDepth 100000 in
theorem reads_at (L : List UInt8) (hL : L.length ≤ 3000) (s : ByteArray) (hcut : cutS s = bs L) (w : World) (hm : MaxAt w) :
    Calls Try.prog 4 #[.string s] w fun e w' => e = .returned (.bool true) ∧ Below w.heap.size w w' := by
  have HDE := hideIt (fun w => decode_any L (by omega) w)
  have HGE := hideIt (fun w => refget_any L (by omega) w)
  have HAW := hideIt (awake_any)
  have HPU := hideIt (refput_any)
  have HM := hideIt hm
  obtain ⟨S, hS⟩ : ∃ S, bs L = S := ⟨_, rfl⟩
  rw [hS] at HDE HGE hcut
  have HOK := hideIt (dec_ok L)
  have HCK : Hid (∀ m, dec L = (0, m) → chk m = 0) := hideIt (fun m h => decF_chk _ _ _ m h)
  obtain ⟨z, m, hzm⟩ : ∃ z m, dec L = (z, m) := ⟨_, _, rfl⟩
  have HDE2 : Hid (∀ w, MaxAt w → Calls Try.prog 13 #[.string S] w fun e w' => ∃ v, e = .returned (.tuple #[v, .int .i64 z]) ∧ ERow w' v m ∧ Below w.heap.size w w') := hideIt (fun w h => by
    have := HDE.out w h
    unfold DecTo at this
    rw [hzm] at this
    exact this)
  have HGE2 : Hid (∀ w, Calls Try.prog 15 #[.string S] w fun e w' => ∃ v, e = .returned (.tuple #[v, .int .i64 z]) ∧ ERow w' v m ∧ Below w.heap.size w w') := hideIt (fun w => by
    have := HGE.out w
    unfold DecTo at this
    rw [hzm] at this
    exact this)
  have HZM := hideIt hzm
  obtain ⟨n, hnn⟩ : ∃ n, m.length = n := ⟨_, rfl⟩
  have HN := hideIt hnn
  have hn256 : n ≤ 256 := by have := decF_few L.length [] L; rw [show decF L.length [] L = dec L from rfl, hzm] at this; have h2 : m.length ≤ 256 := this; omega
  have nI : (n : Int) ≤ 256 := by omega
  clear hnn
  have HSL := hideIt hS
  clear HDE HGE hm hzm hS
  have key : ∀ (c : Bool), decide ((3000 : Int) < (s.size : Int)) = c → Calls Try.prog 4 #[.string s] w fun e w' => e = .returned (.bool true) ∧ Below w.heap.size w w' := by
    intro c hc
    have hcs : (c = true → s.extract 0 3000 = S ∧ (3000 : Int) ≤ (s.size : Int)) ∧ (c = false → s = S ∧ ¬ (3000 : Int) < (s.size : Int)) := by
      constructor
      · intro h
        rw [h] at hc
        have := of_decide_eq_true hc
        rw [cutS, if_pos (by omega)] at hcut
        exact ⟨hcut, by omega⟩
      · intro h
        rw [h] at hc
        have := of_decide_eq_false hc
        rw [cutS, if_neg (by omega)] at hcut
        exact ⟨hcut, this⟩
    cases c with
    | false =>
      obtain ⟨hx, hn⟩ := hcs.2 rfl
      subst hx
      clear hcs hcut
      go_enter Try.func4, Try.ntmps4
      go_wp2_with (first | (go_at_call 13; refine (HDE2.out _ HM.out).mono ?_; rintro e w1 ⟨v1, rfl, hr1, hb1⟩; obtain ⟨a1, c1, rfl⟩ := hr1.sliceN HN.out; have HR1 := hideIt hr1; clear hr1) | (go_at_call 15; refine (HGE2.out _).mono ?_; rintro e w2 ⟨v2, rfl, hr2, hb2⟩; obtain ⟨a2, c2, rfl⟩ := hr2.sliceN HN.out; have HR2 := hideIt hr2; clear hr2) | (go_at_call 12; refine (HAW.out _ (HM.out.below (below2 hb1 hb2))).mono ?_; rintro e w3 ⟨rfl, hb3⟩))
      have HA1 := hideIt (HR1.out.below (below2 hb2 hb3))
      have HA2 := hideIt (HR2.out.below hb3)
      have HB3 := hideIt (below2 (below2 hb1 hb2) hb3)
      clear HR1 HR2 hb1 hb2 hb3
      go_loopw [7] (fun t wr => ∃ i : Nat, i ≤ n ∧ t = .int .i64 i ∧ Below w3.heap.size w3 wr) (fun t _ => n - (intOf t).toNat)
      case atStart => exact ⟨0, by omega, rfl, Below.refl _ _⟩
      case round =>
        obtain ⟨i, hi, rfl, hb⟩ := hrel
        by_cases hlt : i < n
        · have i1 : (i : Int) < (n : Int) := by omega
          have i2 : decide ((i : Int) < (n : Int)) = true := decide_eq_true i1
          obtain ⟨x, hxi⟩ : ∃ x, m[i]? = some x := ⟨m[i]'(by rw [HN.out]; exact hlt), by simp⟩
          obtain ⟨b1, o1, rfl, x0, x1, x2⟩ := (HA1.out.below hb).cellsAt hxi
          obtain ⟨b2, o2, rfl, y0, y1, y2⟩ := (HA2.out.below hb).cellsAt hxi
          have HB := hideIt hb
          clear hxi hb
          go_wp2
          go_quiet (fail)
          go_wp2
          go_roundw
          case rel => exact ⟨i + 1, by omega, by go_num, below2 HB.out (below_drewN _ _)⟩
          case measure => simp [intOf]; omega
        · obtain rfl : i = n := by omega
          have i2 : decide ((i : Int) < (i : Int)) = false := decide_eq_false (by omega)
          have HB := hideIt hb
          by_cases hz0 : z = 0
          · subst hz0
            have hck := HCK.out m HZM.out
            have HP := hideIt (HPU.out _ m wr (HA2.out.below hb) (by have := (chk_wf m hck).1; omega) (chk_wf m hck).2)
            rw [HOK.out m HZM.out, HSL.out] at HP
            clear hb hck
            go_wp2_with (first | (go_at_call 14; refine HP.out.mono ?_; rintro e w4 ⟨rfl, hb4⟩))
            go_ret
            exact ⟨rfl, below2 HB3.out (below2 HB.out hb4)⟩
          · have z1 : (z == 0) = false := by simpa using hz0
            clear hb
            go_wp2
            go_ret
            exact ⟨rfl, below2 HB3.out HB.out⟩
    | true =>
      obtain ⟨hx, hn⟩ := hcs.1 rfl
      clear hcs hcut
      go_enter Try.func4, Try.ntmps4
      go_wp2_with (first | (go_at_call 13; refine (HDE2.out _ HM.out).mono ?_; rintro e w1 ⟨v1, rfl, hr1, hb1⟩; obtain ⟨a1, c1, rfl⟩ := hr1.sliceN HN.out; have HR1 := hideIt hr1; clear hr1) | (go_at_call 15; refine (HGE2.out _).mono ?_; rintro e w2 ⟨v2, rfl, hr2, hb2⟩; obtain ⟨a2, c2, rfl⟩ := hr2.sliceN HN.out; have HR2 := hideIt hr2; clear hr2) | (go_at_call 12; refine (HAW.out _ (HM.out.below (below2 hb1 hb2))).mono ?_; rintro e w3 ⟨rfl, hb3⟩))
      have HA1 := hideIt (HR1.out.below (below2 hb2 hb3))
      have HA2 := hideIt (HR2.out.below hb3)
      have HB3 := hideIt (below2 (below2 hb1 hb2) hb3)
      clear HR1 HR2 hb1 hb2 hb3
      go_loopw [7] (fun t wr => ∃ i : Nat, i ≤ n ∧ t = .int .i64 i ∧ Below w3.heap.size w3 wr) (fun t _ => n - (intOf t).toNat)
      case atStart => exact ⟨0, by omega, rfl, Below.refl _ _⟩
      case round =>
        obtain ⟨i, hi, rfl, hb⟩ := hrel
        by_cases hlt : i < n
        · have i1 : (i : Int) < (n : Int) := by omega
          have i2 : decide ((i : Int) < (n : Int)) = true := decide_eq_true i1
          obtain ⟨x, hxi⟩ : ∃ x, m[i]? = some x := ⟨m[i]'(by rw [HN.out]; exact hlt), by simp⟩
          obtain ⟨b1, o1, rfl, x0, x1, x2⟩ := (HA1.out.below hb).cellsAt hxi
          obtain ⟨b2, o2, rfl, y0, y1, y2⟩ := (HA2.out.below hb).cellsAt hxi
          have HB := hideIt hb
          clear hxi hb
          go_wp2
          go_quiet (fail)
          go_wp2
          go_roundw
          case rel => exact ⟨i + 1, by omega, by go_num, below2 HB.out (below_drewN _ _)⟩
          case measure => simp [intOf]; omega
        · obtain rfl : i = n := by omega
          have i2 : decide ((i : Int) < (i : Int)) = false := decide_eq_false (by omega)
          have HB := hideIt hb
          by_cases hz0 : z = 0
          · subst hz0
            have hck := HCK.out m HZM.out
            have HP := hideIt (HPU.out _ m wr (HA2.out.below hb) (by have := (chk_wf m hck).1; omega) (chk_wf m hck).2)
            rw [HOK.out m HZM.out, HSL.out] at HP
            clear hb hck
            go_wp2_with (first | (go_at_call 14; refine HP.out.mono ?_; rintro e w4 ⟨rfl, hb4⟩))
            go_ret
            exact ⟨rfl, below2 HB3.out (below2 HB.out hb4)⟩
          · have z1 : (z == 0) = false := by simpa using hz0
            clear hb
            go_wp2
            go_ret
            exact ⟨rfl, below2 HB3.out HB.out⟩
  exact key _ rfl
theorem reads_law (s : ByteArray) (w : World) (hm : MaxAt w) : Calls Try.prog 4 #[.string s] w fun e w' => e = .returned (.bool true) ∧ Below w.heap.size w w' := by
  obtain ⟨L, hL⟩ := bs_of (cutS s)
  have h := cutS_size s
  rw [hL, bs_size] at h
  exact reads_at L h s hL w hm
end Go.Proofs.Ytfpnepjdcgghgaa
