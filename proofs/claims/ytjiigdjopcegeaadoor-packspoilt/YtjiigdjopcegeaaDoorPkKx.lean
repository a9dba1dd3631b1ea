/- Packs: items behind items, and the pack of all: walked. -/
import Derived.Test.YtjiigdjopcegeaaDoorPzAll
import Derived.Test.YtjiigdjopcegeaaDoorLdPressw
import Derived.Test.YtjiigdjopcegeaaDoorCbNumw
namespace Go.Proofs.YtjiigdjopcegeaaDoor.Pk
open Cb Ld Go.RowKit Go.Shelf
theorem num_le (n : Nat) (h : n ≤ 1000000000) : (Cd.numL n).length ≤ 10 := by
  rw [Cd.numL, List.length_reverse, Cd.numR, List.length_cons]
  have := Cd.more_len 9 n (by omega)
  omega
theorem Grew.str {B n : Nat} {w w1 w2 : World} {v v' : Value} {L M : List UInt8} (hown : w.ownsRow B 5 1 v L.length (u8s L)) (hB : B ≤ w.heap.size) (hb : Below w.heap.size w w1) (hn : n = L.length + M.length) (h2 : w2.ownsRow B 5 1 v' n (u8s L ++ Lib.strCells (bs M))) (hg : w1.grownBy w2 v.ownBlock) : Grew B w w2 v' (L ++ M) := by
  rw [str_u8s, bs_list] at h2
  exact Grew.of hown hB hb hn h2 hg
set_option maxHeartbeats 1600000 in
set_option maxRecDepth 100000 in
theorem appendItem_any (B : Nat) (v : Value) (L b pr : List UInt8) (w : World) (hown : w.ownsRow B 5 1 v L.length (u8s L)) (hB : B ≤ w.heap.size) (hL : L.length ≤ 10000000) (hb : b.length ≤ 10000000) (hpr : pr.length ≤ 10000000) :
    Calls Tryd.prog 16 #[v, .string (bs b), .string (bs pr)] w fun e w' => ∃ v', e = .returned v' ∧ Grew B w w' v' (L ++ (headL b ++ Cd.numL pr.length ++ pr)) := by
  obtain ⟨i0, hi0, hz0, hz1, hz2⟩ := info_parts infoB
  have HN := hideIt (fun w => num_any pr.length w (by omega))
  have hnl := num_le pr.length (by omega)
  obtain ⟨nn, hnn⟩ : ∃ nn, Cd.numL pr.length = nn := ⟨_, rfl⟩
  rw [hnn] at HN hnl ⊢
  have nsz : (bs nn).size = nn.length := bs_size nn
  have psz : (bs pr).size = pr.length := bs_size pr
  have HO := hideIt hown
  have GS := hideIt (fun (w1 w2 w3 : World) (v1 v2 : Value) (K M : List UInt8) (n : Nat) (h : w1.ownsRow B 5 1 v1 K.length (u8s K)) (hB' : B ≤ w1.heap.size) (hb : Below w1.heap.size w1 w2) (hn : n = K.length + M.length) (h2 : w3.ownsRow B 5 1 v2 n (u8s K ++ Lib.strCells (bs M))) (hg : w2.grownBy w3 v1.ownBlock) => Grew.str h hB' hb hn h2 hg)
  clear hown hnn
  have pI : (pr.length : Int) ≤ 10000000 := by omega
  have pW : IntKind.u64.wrap (pr.length : Int) = (pr.length : Int) := by rw [IntKind.wrap_u64]; omega
  by_cases h0 : b = []
  · subst h0
    have be : bs [] = (⟨#[]⟩ : ByteArray) := rfl
    have he : headL [] = [119] := rfl
    rw [be, he]
    go_enter Tryd.func16, Tryd.ntmps16
    go_wp2_with (first
      | (at_builtin; refine wpList_append_own _ rfl (.tmp 9) (.tmp 10) 42 rfl B 5 i0 (.int .u8 0) 1 1 Tryd.underlying42 hi0 hz0 hz1 hz2 rfl (by decide) _ L.length (u8s L) rfl (HO.out.alloc _) ⟨w.heap.size, 0, none⟩ 1 1 (u8s [119]) rfl rfl (one_cellN 119 _ rfl) (u8s_one _) (by unfold maxLen; omega) (by omega) (by simp; omega) ?_; intro v1 w1 hown1 hg1 _; have G1 := hideIt (Grew.of (M := [119]) HO.out hB ((Below.refl w.heap.size w).alloc (Nat.le_refl _) _) rfl hown1 hg1); clear hown1 hg1)
      | (go_at_call 14; refine (HN.out _).mono ?_; rintro e w2 ⟨rfl, hb2⟩; have O2 := hideIt (own_keep G1.out.own hb2.block); have S2 : B ≤ w2.heap.size := Nat.le_trans hB (Nat.le_trans G1.out.below.size hb2.size))
      | (at_builtin; refine Lib.wpList_append_own_string _ rfl (.tmp 17) (.tmp 21) 42 9 rfl B 5 i0 Tryd.underlying42 Tryd.underlying9 hi0 hz0 hz1 hz2 _ _ _ rfl O2.out (bs nn) rfl (by unfold maxLen; simp only [List.length_append, List.length_cons, List.length_nil]; omega) (by simp only [List.length_append, List.length_cons, List.length_nil]; omega) S2 ?_; intro v3 w3 hown3 hg3 _; have G3 := hideIt (GS.out _ _ _ _ _ _ _ _ G1.out.own (Nat.le_trans hB G1.out.below.size) hb2 (by rw [nsz]) hown3 hg3); clear hown3 hg3)
      | (at_builtin; refine Lib.wpList_append_own_string _ rfl (.tmp 22) (.tmp 23) 42 9 rfl B 5 i0 Tryd.underlying42 Tryd.underlying9 hi0 hz0 hz1 hz2 _ _ _ rfl G3.out.own (bs pr) rfl (by unfold maxLen; simp only [List.length_append, List.length_cons, List.length_nil]; omega) (by simp only [List.length_append, List.length_cons, List.length_nil]; omega) (Nat.le_trans hB (G1.out.trans G3.out).below.size) ?_; intro v4 w4 hown4 hg4 _; have G4 := hideIt (GS.out _ _ _ _ _ _ _ _ G3.out.own (Nat.le_trans hB (G1.out.trans G3.out).below.size) (Below.refl _ _) (by rw [psz]) hown4 hg4); clear hown4 hg4))
    go_ret
    refine ⟨v4, rfl, ?_⟩
    have G := (G1.out.trans G3.out).trans G4.out
    simpa only [List.append_assoc, List.cons_append, List.nil_append] using G
  · have he : headL b = 109 :: b := by rw [headL, if_neg h0]
    have hbp : 0 < (bs b).size := by rw [bs_size]; exact List.length_pos_iff.2 h0
    obtain ⟨n1, n2⟩ := nonempty_of hbp
    have bsz : (bs b).size = b.length := bs_size b
    rw [he]
    clear he h0 hbp
    go_enter Tryd.func16, Tryd.ntmps16
    go_wp2_with (first
      | (at_builtin; refine wpList_append_own _ rfl (.tmp 12) (.tmp 13) 42 rfl B 5 i0 (.int .u8 0) 1 1 Tryd.underlying42 hi0 hz0 hz1 hz2 rfl (by decide) _ L.length (u8s L) rfl (HO.out.alloc _) ⟨w.heap.size, 0, none⟩ 1 1 (u8s [109]) rfl rfl (one_cellN 109 _ rfl) (u8s_one _) (by unfold maxLen; omega) (by omega) (by simp; omega) ?_; intro v0 w0 hown1 hg1 _; have G0 := hideIt (Grew.of (M := [109]) HO.out hB ((Below.refl w.heap.size w).alloc (Nat.le_refl _) _) rfl hown1 hg1); clear hown1 hg1)
      | (at_builtin; refine Lib.wpList_append_own_string _ rfl (.tmp 14) (.tmp 15) 42 9 rfl B 5 i0 Tryd.underlying42 Tryd.underlying9 hi0 hz0 hz1 hz2 _ _ _ rfl G0.out.own (bs b) rfl (by unfold maxLen; simp only [List.length_append, List.length_cons, List.length_nil]; omega) (by simp only [List.length_append, List.length_cons, List.length_nil]; omega) (Nat.le_trans hB G0.out.below.size) ?_; intro v1 w1 hown1 hg1 _; have G1 := hideIt (G0.out.trans (GS.out _ _ _ _ _ _ _ _ G0.out.own (Nat.le_trans hB G0.out.below.size) (Below.refl _ _) (by rw [bsz]) hown1 hg1)); clear hown1 hg1)
      | (go_at_call 14; refine (HN.out _).mono ?_; rintro e w2 ⟨rfl, hb2⟩; have O2 := hideIt (own_keep G1.out.own hb2.block); have S2 : B ≤ w2.heap.size := Nat.le_trans hB (Nat.le_trans G1.out.below.size hb2.size))
      | (at_builtin; refine Lib.wpList_append_own_string _ rfl (.tmp 17) (.tmp 21) 42 9 rfl B 5 i0 Tryd.underlying42 Tryd.underlying9 hi0 hz0 hz1 hz2 _ _ _ rfl O2.out (bs nn) rfl (by unfold maxLen; simp only [List.length_append, List.length_cons, List.length_nil]; omega) (by simp only [List.length_append, List.length_cons, List.length_nil]; omega) S2 ?_; intro v3 w3 hown3 hg3 _; have G3 := hideIt (GS.out _ _ _ _ _ _ _ _ G1.out.own (Nat.le_trans hB G1.out.below.size) hb2 (by rw [nsz]) hown3 hg3); clear hown3 hg3)
      | (at_builtin; refine Lib.wpList_append_own_string _ rfl (.tmp 22) (.tmp 23) 42 9 rfl B 5 i0 Tryd.underlying42 Tryd.underlying9 hi0 hz0 hz1 hz2 _ _ _ rfl G3.out.own (bs pr) rfl (by unfold maxLen; simp only [List.length_append, List.length_cons, List.length_nil]; omega) (by simp only [List.length_append, List.length_cons, List.length_nil]; omega) (Nat.le_trans hB (G1.out.trans G3.out).below.size) ?_; intro v4 w4 hown4 hg4 _; have G4 := hideIt (GS.out _ _ _ _ _ _ _ _ G3.out.own (Nat.le_trans hB (G1.out.trans G3.out).below.size) (Below.refl _ _) (by rw [psz]) hown4 hg4); clear hown4 hg4))
    go_ret
    refine ⟨v4, rfl, ?_⟩
    have G := (G1.out.trans G3.out).trans G4.out
    simpa only [List.append_assoc, List.cons_append, List.nil_append] using G
end Go.Proofs.YtjiigdjopcegeaaDoor.Pk
