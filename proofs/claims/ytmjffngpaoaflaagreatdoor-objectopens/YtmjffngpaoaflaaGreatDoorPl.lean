/- The document's line, walked. -/
import Derived.Test.YtmjffngpaoaflaaGreatDoorPi
import Derived.Test.YtmjffngpaoaflaaGreatDoorOs
import Derived.BigQuiet
import Derived.OwnWalk
namespace Go.Proofs.YtmjffngpaoaflaaGreatDoor
namespace Ob
open Go.RowKit Go.Shelf
/-- What the document's line answers. -/
def lnV (wd L : List UInt8) : Value := if tkO wd L = true then .tuple #[.string (bs (tkT wd L)), .string (bs (tkR L)), .bool true] else .tuple #[.string ⟨#[]⟩, .string (bs L), .bool false]
theorem lnV_short (wd L : List UInt8) (h : ixc 10 L < (wd.length : Int) + 1) : lnV wd L = .tuple #[.string ⟨#[]⟩, .string (bs L), .bool false] := by
  unfold lnV
  rw [if_neg]
  unfold tkO fsl
  unfold ixc at h
  cases hc : cutc 10 L with
  | none => simp
  | some p =>
    obtain ⟨a, r⟩ := p
    rw [hc] at h
    simp only at h ⊢
    intro hh
    simp only [Bool.true_and, hasW] at hh
    have := List.IsPrefix.length_le (List.isPrefixOf_iff_prefix.1 hh)
    simp at this
    omega
theorem ixc_cut (c : UInt8) (L : List UInt8) (h : 0 ≤ ixc c L) : ∃ a r, cutc c L = some (a, r) ∧ L = a ++ c :: r ∧ ixc c L = (a.length : Nat) := by
  unfold ixc at h ⊢
  cases hc : cutc c L with
  | none => rw [hc] at h; simp at h
  | some p =>
    obtain ⟨a, r⟩ := p
    exact ⟨a, r, rfl, (cutc_some c L a r hc).1, rfl⟩
theorem hasW_take (wd a : List UInt8) (x : List UInt8) (h : wd.length + 1 ≤ a.length) : hasW wd a = decide ((a ++ x).take (wd.length + 1) = wd ++ [32]) := by
  rw [List.take_append_of_le_length h]
  unfold hasW
  by_cases hp : wd ++ [32] <+: a
  · rw [List.isPrefixOf_iff_prefix.2 hp]
    have := List.prefix_iff_eq_take.1 hp
    simp only [List.length_append, List.length_cons, List.length_nil] at this
    rw [← this]
    simp
  · have h1 : (wd ++ [32]).isPrefixOf a = false := by
      cases hb : (wd ++ [32]).isPrefixOf a with
      | false => rfl
      | true => exact absurd (List.isPrefixOf_iff_prefix.1 hb) hp
    rw [h1]
    symm
    apply decide_eq_false
    intro he
    apply hp
    rw [← he]
    exact List.take_prefix _ _
theorem bs_word (wd : List UInt8) : bs wd ++ (⟨#[32]⟩ : ByteArray) = bs (wd ++ [32]) := by
  apply ByteArray.ext
  apply Array.toList_inj.1
  simp [bs, ByteArray.data_append]
theorem bsl_eq (a b : List UInt8) : ((bs a).toList == (bs b).toList) = decide (a = b) := by
  by_cases h : a = b
  · subst h; simp
  · rw [decide_eq_false h]
    cases hb : ((bs a).toList == (bs b).toList) with
    | false => rfl
    | true =>
      exfalso
      have h2 := eq_of_beq hb
      rw [ByteArray.toList_eq, ByteArray.toList_eq] at h2
      simp only [bs_list] at h2
      exact h h2
set_option maxHeartbeats 1600000 in
set_option maxRecDepth 100000 in
theorem refline_any (wd L : List UInt8) (hL : L.length ≤ 1000000) (hw : wd.length ≤ 1000) (w : World) :
    Calls Tryz.prog 51 #[.string (bs L), .string (bs wd)] w fun e w' => e = .returned (lnV wd L) ∧ Below w.heap.size w w' := by
  have HI := hideIt (fun w => refindex_any 10 L hL w)
  have t10 : ((10 : UInt8).toNat : Int) = 10 := rfl
  rw [t10] at HI
  have bz : (bs wd).size = wd.length := bs_size _
  have lz : (bs L).size = L.length := bs_size _
  by_cases hs : ixc 10 L < (wd.length : Int) + 1
  · rw [lnV_short wd L hs]
    obtain ⟨n, hn⟩ : ∃ n, ixc 10 L = n := ⟨_, rfl⟩
    rw [hn] at HI hs
    obtain ⟨S, hS⟩ : ∃ S, bs L = S := ⟨_, rfl⟩
    obtain ⟨T, hT⟩ : ∃ T, bs wd = T := ⟨_, rfl⟩
    rw [hS] at HI lz ⊢
    rw [hT] at bz ⊢
    have h1 : decide (n < (T.size : Int) + 1) = true := decide_eq_true (by omega)
    have b1 : (T.size : Int) ≤ 1000 := by omega
    clear hn hS hT hs bz lz
    go_enter Tryz.func51, Tryz.ntmps51
    go_wp2_with (go_at_call 26; refine (HI.out _).mono ?_; rintro e w1 ⟨rfl, h⟩; subst h)
    (try simp only [Exit.inBlock, Exit.then])
    refine bodyPost_ret (v := .tuple #[.string ⟨#[]⟩, .string S, .bool false]) ?_ rfl ⟨rfl, ?_⟩
    · rw [results_tmp3 rfl]
      go_simp
    · exact Below.refl _ _
  · obtain ⟨a, r, hc, hLa, hx⟩ := ixc_cut 10 L (by omega)
    have hal : wd.length + 1 ≤ a.length := by omega
    have hll : L.length = a.length + 1 + r.length := by rw [hLa]; simp; omega
    have ht := hasW_take wd a (10 :: r) hal
    rw [← hLa] at ht
    have hf : fsl L = (a, r, true) := by unfold fsl; rw [hc]
    have x1 : (bs L).extract 0 (wd.length + 1) = bs (L.take (wd.length + 1)) := by rw [bs_extract]; simp
    have x2 : (bs L).extract (wd.length + 1) a.length = bs (a.drop (wd.length + 1)) := by
      rw [bs_extract, hLa]
      congr 1
      rw [List.drop_append_of_le_length hal, List.take_append_of_le_length (by simp)]
      apply List.take_of_length_le
      simp
    have x3 : (bs L).extract (a.length + 1) L.length = bs r := by
      rw [bs_extract]
      congr 1
      have : L.drop (a.length + 1) = r := by rw [hLa]; simp
      rw [this]
      apply List.take_of_length_le
      omega
    have x4 : ((bs L).extract 0 (wd.length + 1)).toList == (bs wd ++ (⟨#[32]⟩ : ByteArray)).toList ↔ hasW wd a = true := by
      rw [x1, bs_word, bsl_eq, ht]
    have hv : lnV wd L = if hasW wd a = true then .tuple #[.string ((bs L).extract (wd.length + 1) a.length), .string ((bs L).extract (a.length + 1) L.length), .bool true] else .tuple #[.string ⟨#[]⟩, .string (bs L), .bool false] := by
      unfold lnV tkO tkT tkR
      rw [hf]
      simp only [Bool.true_and]
      split
      · rw [x2, x3]
      · rfl
    rw [hv]
    rw [hx] at HI
    clear x1 x2 x3 hv ht hf hc hLa hs hx
    obtain ⟨S, hS⟩ : ∃ S, bs L = S := ⟨_, rfl⟩
    obtain ⟨T, hT⟩ : ∃ T, bs wd = T := ⟨_, rfl⟩
    rw [hS] at HI lz x4 ⊢
    rw [hT] at bz x4 ⊢
    obtain ⟨n, hn⟩ : ∃ n, a.length = n := ⟨_, rfl⟩
    obtain ⟨m, hm⟩ : ∃ m, wd.length = m := ⟨_, rfl⟩
    obtain ⟨q, hq⟩ : ∃ q, L.length = q := ⟨_, rfl⟩
    rw [hn] at HI hal hll ⊢
    rw [hm] at bz hal hw x4 ⊢
    rw [hq] at lz hll hL ⊢
    clear hS hT hn hm hq
    subst bz lz
    obtain ⟨k, hk⟩ : ∃ k, T.size + 1 = k := ⟨_, rfl⟩
    obtain ⟨z, hz⟩ : ∃ z, n + 1 = z := ⟨_, rfl⟩
    rw [hk] at hal x4
    have kI : (T.size : Int) + 1 = (k : Int) := by omega
    have zI : (n : Int) + 1 = (z : Int) := by omega
    have h1 : decide ((n : Int) < (k : Int)) = false := decide_eq_false (by omega)
    have m1 : (T.size : Int) ≤ 1000 := by omega
    have n1 : (n : Int) ≤ (S.size : Int) := by omega
    have q1 : (S.size : Int) ≤ 1000000 := by omega
    have nm : (k : Int) ≤ (n : Int) := by omega
    have a1 : (0 : Int) ≤ (k : Int) := by omega
    have a2 : (k : Int) ≤ (S.size : Int) := by omega
    have a3 : (0 : Int) ≤ (z : Int) := by omega
    have a4 : (z : Int) ≤ (S.size : Int) := by omega
    have a5 : (0 : Int) ≤ (n : Int) := by omega
    rw [hk, hz]
    clear hk hz hll
    clear hL hw
    cases hb : hasW wd a with
    | true =>
      have e1 := x4.2 hb
      rw [if_pos rfl]
      go_enter Tryz.func51, Tryz.ntmps51
      go_wp2_with (go_at_call 26; refine (HI.out _).mono ?_; rintro e w1 ⟨rfl, h⟩; subst h)
      go_quiet (fail)
      go_wp2
      (try simp only [Exit.inBlock, Exit.then])
      refine bodyPost_ret (v := .tuple #[.string (S.extract k n), .string (S.extract z S.size), .bool true]) ?_ rfl ⟨rfl, ?_⟩
      · rw [results_tmp3 rfl]
        go_simp
      · exact below_drewN _ _
    | false =>
      have e1 : ((S.extract 0 k).toList == (T ++ (⟨#[32]⟩ : ByteArray)).toList) = false := by
        cases h : ((S.extract 0 k).toList == (T ++ (⟨#[32]⟩ : ByteArray)).toList) with
        | false => rfl
        | true => rw [x4.1 h] at hb; cases hb
      rw [if_neg (by decide)]
      go_enter Tryz.func51, Tryz.ntmps51
      go_wp2_with (go_at_call 26; refine (HI.out _).mono ?_; rintro e w1 ⟨rfl, h⟩; subst h)
      (try simp only [Exit.inBlock, Exit.then])
      refine bodyPost_ret (v := .tuple #[.string ⟨#[]⟩, .string S, .bool false]) ?_ rfl ⟨rfl, ?_⟩
      · rw [results_tmp3 rfl]
        go_simp
      · exact Below.refl _ _
end Ob
end Go.Proofs.YtmjffngpaoaflaaGreatDoor
