/- Links, walked. -/
import Derived.Test.YtmjffngpaoaflaaGreatDoorLkb
namespace Go.Proofs.YtmjffngpaoaflaaGreatDoor
namespace Ob
open Go.RowKit Go.Shelf
set_option maxHeartbeats 3200000 in
set_option maxRecDepth 100000 in
theorem links_any (L : List UInt8) (w : World) (hL : L.length ≤ 1000000) (hk : Ok w) :
    Calls Tryz.prog 10 #[.string (bs L)] w fun e w' => LkTo w (links L) e w' := by
  have HT : Hid (∀ e w', LkTo w (links L) e w' ↔ ∃ v, e = .returned (.tuple #[v, .int .i64 (links L).2]) ∧ LRow w' v (links L).1 ∧ Below w.heap.size w w') := hideIt (fun _ _ => Iff.rfl)
  have HOK := hideIt hk
  have HS := hideIt (split_any L hL w hk)
  have hbl := opn_len L
  have HL : Hid (links L = if (opn L).2.2 = 0 then (if (opn L).1 = 2 then treeLk (opn L).2.1 else if (opn L).1 = 3 then comLk (opn L).2.1 else if (opn L).1 = 4 then tagLk (opn L).2.1 else ([], 0)) else ([], (opn L).2.2)) := rfl
  unfold opV at HS
  obtain ⟨k, hkk⟩ : ∃ k, (opn L).1 = k := ⟨_, rfl⟩
  obtain ⟨b, hb⟩ : ∃ b, (opn L).2.1 = b := ⟨_, rfl⟩
  obtain ⟨z, hz⟩ : ∃ z, (opn L).2.2 = z := ⟨_, rfl⟩
  rw [hkk, hb, hz] at HS HL
  rw [hb] at hbl
  obtain ⟨S, hS⟩ : ∃ S, bs L = S := ⟨_, rfl⟩
  rw [hS] at HS ⊢
  have H2 := hideIt (fun w h => treeLinks_any b w hbl h)
  have H3 := hideIt (fun w h => commitLinks_any b w hbl h)
  have H4 := hideIt (fun w h => tagLinks_any b w hbl h)
  obtain ⟨Y, hY⟩ : ∃ S, bs b = S := ⟨_, rfl⟩
  rw [hY] at HS H2 H3 H4
  clear hk hkk hb hz hS hY hbl hL
  by_cases h0 : z = 0
  · subst h0
    rw [if_pos rfl] at HL
    by_cases k2 : k = 2
    · subst k2
      rw [if_pos rfl] at HL
      go_enter Tryz.func10, Tryz.ntmps10
      go_wp2_with (first
        | (go_at_call 24; refine HS.out.mono ?_; rintro e w1 ⟨rfl, hb1⟩; have HB1 := hideIt hb1; clear hb1)
        | (go_at_call 29; refine (H2.out _ (HOK.out.below HB1.out).max).mono ?_; intro e w2 hlk; obtain ⟨v2, rfl, hr2, hb2⟩ := hlk))
      go_ret2
      exact (HT.out _ _).2 ⟨v2, by rw [HL.out] <;> rfl, by rw [HL.out]; exact hr2, below2 HB1.out hb2⟩
    · have q2 : (k == 2) = false := by simpa using k2
      rw [if_neg k2] at HL
      by_cases k3 : k = 3
      · subst k3
        rw [if_pos rfl] at HL
        go_enter Tryz.func10, Tryz.ntmps10
        go_wp2_with (first
          | (go_at_call 24; refine HS.out.mono ?_; rintro e w1 ⟨rfl, hb1⟩; have HB1 := hideIt hb1; clear hb1)
          | (go_at_call 30; refine (H3.out _ (HOK.out.below HB1.out)).mono ?_; intro e w2 hlk; obtain ⟨v2, rfl, hr2, hb2⟩ := hlk))
        go_ret2
        exact (HT.out _ _).2 ⟨v2, by rw [HL.out] <;> rfl, by rw [HL.out]; exact hr2, below2 HB1.out hb2⟩
      · have q3 : (k == 3) = false := by simpa using k3
        rw [if_neg k3] at HL
        by_cases k4 : k = 4
        · subst k4
          rw [if_pos rfl] at HL
          go_enter Tryz.func10, Tryz.ntmps10
          go_wp2_with (first
            | (go_at_call 24; refine HS.out.mono ?_; rintro e w1 ⟨rfl, hb1⟩; have HB1 := hideIt hb1; clear hb1)
            | (go_at_call 31; refine (H4.out _ (HOK.out.below HB1.out).max).mono ?_; intro e w2 hlk; obtain ⟨v2, rfl, hr2, hb2⟩ := hlk))
          go_ret2
          exact (HT.out _ _).2 ⟨v2, by rw [HL.out] <;> rfl, by rw [HL.out]; exact hr2, below2 HB1.out hb2⟩
        · have q4 : (k == 4) = false := by simpa using k4
          rw [if_neg k4] at HL
          go_enter Tryz.func10, Tryz.ntmps10
          go_wp2_with (first
            | (go_at_call 24; refine HS.out.mono ?_; rintro e w1 ⟨rfl, hb1⟩; have HB1 := hideIt hb1; clear hb1))
          go_ret2
          exact (HT.out _ _).2 ⟨.slice none 0 0, by rw [HL.out] <;> rfl, by rw [HL.out]; exact LRow.nil _, HB1.out⟩
  · have z1 : (z != 0) = true := by simpa using h0
    rw [if_neg h0] at HL
    go_enter Tryz.func10, Tryz.ntmps10
    go_wp2_with (first
      | (go_at_call 24; refine HS.out.mono ?_; rintro e w1 ⟨rfl, hb1⟩; have HB1 := hideIt hb1; clear hb1))
    go_ret2
    exact (HT.out _ _).2 ⟨.slice none 0 0, by rw [HL.out] <;> rfl, by rw [HL.out]; exact LRow.nil _, HB1.out⟩
end Ob
end Go.Proofs.YtmjffngpaoaflaaGreatDoor
