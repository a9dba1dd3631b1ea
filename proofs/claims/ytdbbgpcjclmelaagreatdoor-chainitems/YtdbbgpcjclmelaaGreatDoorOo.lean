/- Open and ID, walked; the waking test; the document's Raw and ID. -/
import Derived.Test.YtdbbgpcjclmelaaGreatDoorOw
namespace Go.Proofs.YtdbbgpcjclmelaaGreatDoor
namespace Ob
open Go.RowKit Go.Shelf
def opV (r : Int × List UInt8 × Int) : Value := .tuple #[.int .i64 r.1, .string (bs r.2.1), .int .i64 r.2.2]
theorem und_lt {L : List UInt8} {n : Nat} (h : Cb.Dd.und L = some n) : n < 18446744073709551616 := by
  unfold Cb.Dd.und at h
  cases hr : Lib.parseUintB 64 L with
  | ok u =>
    rw [hr] at h
    simp only at h
    have hne : L ≠ [] := fun e => by rw [e] at hr; cases hr
    rw [Cb.Dd.B64 _ hne] at hr
    have := (Cb.Dd.parse_ok _ 0 u (by unfold Cb.Dd.M; omega) hr).2.2
    unfold Cb.Dd.M at this
    split at h
    · simp only [Option.some.injEq] at h; omega
    · cases h
  | _ => rw [hr] at h; cases h
set_option maxHeartbeats 1600000 in
set_option maxRecDepth 100000 in
theorem split_any (L : List UInt8) (hL : L.length ≤ 1000000) (w : World) (hk : Ok w) :
    Calls Tryz.prog 82 #[.string (bs L)] w fun e w' => e = .returned (opV (opn L)) ∧ Below w.heap.size w w' := by
  have HOK := hideIt hk
  have HC := hideIt (fun w h => sCut_any L 0 hL w h)
  clear hk
  cases h0 : cutc 0 L with
  | none =>
    have HO : Hid (opn L = (0, [], 6)) := hideIt (by rw [opn, h0])
    rw [show cutV 0 L = .tuple #[.string (bs L), .string ⟨#[]⟩, .bool false] by rw [cutV, h0]] at HC
    have HC2 := hideIt (fun w h => sCut_any L 32 hL w h)
    cases h1 : cutc 32 L with
    | none =>
      rw [show cutV 32 L = .tuple #[.string (bs L), .string ⟨#[]⟩, .bool false] by rw [cutV, h1]] at HC2
      clear h0 h1
      go_enter Tryz.func82, Tryz.ntmps82
      go_wp2_with (first | (go_at_call_of 106 (Value.string ⟨#[0]⟩); refine (HC.out _ HOK.out.max).mono ?_; rintro e w1 ⟨rfl, hb1⟩) | (go_at_call_of 106 (Value.string ⟨#[32]⟩); refine (HC2.out _ (HOK.out.below hb1).max).mono ?_; rintro e w2 ⟨rfl, hb2⟩))
      go_ret3
      exact ⟨by rw [HO.out]; rfl, below2 hb1 hb2⟩
    | some p =>
      obtain ⟨a, r⟩ := p
      rw [show cutV 32 L = .tuple #[.string (bs a), .string (bs r), .bool true] by rw [cutV, h1]] at HC2
      clear h0 h1
      go_enter Tryz.func82, Tryz.ntmps82
      go_wp2_with (first | (go_at_call_of 106 (Value.string ⟨#[0]⟩); refine (HC.out _ HOK.out.max).mono ?_; rintro e w1 ⟨rfl, hb1⟩) | (go_at_call_of 106 (Value.string ⟨#[32]⟩); refine (HC2.out _ (HOK.out.below hb1).max).mono ?_; rintro e w2 ⟨rfl, hb2⟩))
      go_ret3
      exact ⟨by rw [HO.out]; rfl, below2 hb1 hb2⟩
  | some p =>
    obtain ⟨hd, body⟩ := p
    rw [show cutV 0 L = .tuple #[.string (bs hd), .string (bs body), .bool true] by rw [cutV, h0]] at HC
    have hlen : hd.length + body.length < 1000000 := by
      obtain ⟨e, -⟩ := cutc_some 0 L hd body h0
      rw [e] at hL
      simp at hL
      omega
    have HC2 := hideIt (fun w h => sCut_any hd 32 (by omega) w h)
    cases h1 : cutc 32 hd with
    | none =>
      have HO : Hid (opn L = (0, [], 6)) := hideIt (by rw [opn, h0]; simp only; rw [h1])
      rw [show cutV 32 hd = .tuple #[.string (bs hd), .string ⟨#[]⟩, .bool false] by rw [cutV, h1]] at HC2
      clear h0 h1
      go_enter Tryz.func82, Tryz.ntmps82
      go_wp2_with (first | (go_at_call_of 106 (Value.string ⟨#[0]⟩); refine (HC.out _ HOK.out.max).mono ?_; rintro e w1 ⟨rfl, hb1⟩) | (go_at_call_of 106 (Value.string ⟨#[32]⟩); refine (HC2.out _ (HOK.out.below hb1).max).mono ?_; rintro e w2 ⟨rfl, hb2⟩))
      go_ret3
      exact ⟨by rw [HO.out]; rfl, below2 hb1 hb2⟩
    | some p =>
      obtain ⟨wd, d⟩ := p
      rw [show cutV 32 hd = .tuple #[.string (bs wd), .string (bs d), .bool true] by rw [cutV, h1]] at HC2
      have hlen2 : wd.length + d.length < 1000000 := by
        obtain ⟨e, -⟩ := cutc_some 32 hd wd d h1
        have := congrArg List.length e
        simp at this
        omega
      have HK := hideIt (fun w => kindOf_any wd w)
      have HU := hideIt (fun w h => undec_c d w (by omega) h)
      have HO : Hid (opn L = if kn wd = 0 then (0, [], 70) else opn3 (kn wd) body (Cb.Dd.und d)) := hideIt (by simp only [opn, h0, h1])
      have hbs : (bs body).size = body.length := bs_size body
      obtain ⟨kk, hkk⟩ : ∃ kk, kn wd = kk := ⟨_, rfl⟩
      obtain ⟨B, hB⟩ : ∃ B, bs body = B := ⟨_, rfl⟩
      rw [hkk] at HK HO
      rw [hB] at HC hbs
      have HBB := hideIt hB
      clear h0 h1 hkk hB
      by_cases hz : kk = 0
      · subst hz
        rw [if_pos rfl] at HO
        go_enter Tryz.func82, Tryz.ntmps82
        go_wp2_with (first | (go_at_call_of 106 (Value.string ⟨#[0]⟩); refine (HC.out _ HOK.out.max).mono ?_; rintro e w1 ⟨rfl, hb1⟩) | (go_at_call_of 106 (Value.string ⟨#[32]⟩); refine (HC2.out _ (HOK.out.below hb1).max).mono ?_; rintro e w2 ⟨rfl, hb2⟩) | (go_at_call 107; refine (HK.out _).mono ?_; rintro e w3 ⟨rfl, rfl⟩))
        go_ret3
        exact ⟨by rw [HO.out]; rfl, below2 hb1 hb2⟩
      · rw [if_neg hz] at HO
        cases hu : Cb.Dd.und d with
        | none =>
          rw [hu] at HO HU
          have HU2 : Hid (∀ w, Ok w → Calls Tryz.prog 108 #[.string (bs d)] w fun e w' => e = .returned (.tuple #[.int .u64 0, .int .i64 6]) ∧ Below w.heap.size w w') := HU
          clear HU
          go_enter Tryz.func82, Tryz.ntmps82
          go_wp2_with (first | (go_at_call_of 106 (Value.string ⟨#[0]⟩); refine (HC.out _ HOK.out.max).mono ?_; rintro e w1 ⟨rfl, hb1⟩) | (go_at_call_of 106 (Value.string ⟨#[32]⟩); refine (HC2.out _ (HOK.out.below hb1).max).mono ?_; rintro e w2 ⟨rfl, hb2⟩) | (go_at_call 107; refine (HK.out _).mono ?_; rintro e w3 ⟨rfl, rfl⟩) | (go_at_call 108; refine (HU2.out _ ((HOK.out.below hb1).below hb2)).mono ?_; rintro e w4 ⟨rfl, hb4⟩))
          go_ret3
          exact ⟨by rw [HO.out]; rfl, below2 (below2 hb1 hb2) hb4⟩
        | some n =>
          rw [hu] at HO HU
          have HU2 : Hid (∀ w, Ok w → Calls Tryz.prog 108 #[.string (bs d)] w fun e w' => e = .returned (.tuple #[.int .u64 (n : Int), .int .i64 0]) ∧ Below w.heap.size w w') := HU
          have HCL : Hid (∀ w, Calls Tryz.prog 109 #[.int .u64 (n : Int), .int .u64 (IntKind.u64.wrap (B.size : Int))] w fun e w' => e = .returned (.int .i64 (lenE n B.size)) ∧ w' = w) := hideIt (fun w => by
            rw [show IntKind.u64.wrap (B.size : Int) = (B.size : Int) by rw [IntKind.wrap_u64]; omega]
            exact checkLength_any n B.size w)
          have HO2 : Hid (opn L = if lenE n B.size = 0 then (kk, body, 0) else (0, [], lenE n B.size)) := hideIt (by
            rw [HO.out, lenE, hbs, opn3]
            by_cases q1 : 262144 < n
            · simp [q1]
            · by_cases q2 : body.length < n
              · simp [q1, q2]
              · by_cases q3 : n < body.length
                · simp [q1, q2, q3]
                · simp [q1, q2, q3])
          obtain ⟨z, hzz⟩ : ∃ z, lenE n B.size = z := ⟨_, rfl⟩
          rw [hzz] at HCL HO2
          clear HU HO hu hzz hbs hlen hlen2 hL
          by_cases hz0 : z = 0
          · subst hz0
            rw [if_pos rfl] at HO2
            go_enter Tryz.func82, Tryz.ntmps82
            go_wp2_with (first | (go_at_call_of 106 (Value.string ⟨#[0]⟩); refine (HC.out _ HOK.out.max).mono ?_; rintro e w1 ⟨rfl, hb1⟩) | (go_at_call_of 106 (Value.string ⟨#[32]⟩); refine (HC2.out _ (HOK.out.below hb1).max).mono ?_; rintro e w2 ⟨rfl, hb2⟩) | (go_at_call 107; refine (HK.out _).mono ?_; rintro e w3 ⟨rfl, rfl⟩) | (go_at_call 108; refine (HU2.out _ ((HOK.out.below hb1).below hb2)).mono ?_; rintro e w4 ⟨rfl, hb4⟩) | (go_at_call 109; refine (HCL.out _).mono ?_; rintro e w5 ⟨rfl, rfl⟩))
            go_ret3
            exact ⟨by rw [HO2.out, ← HBB.out]; rfl, below2 (below2 hb1 hb2) hb4⟩
          · rw [if_neg hz0] at HO2
            go_enter Tryz.func82, Tryz.ntmps82
            go_wp2_with (first | (go_at_call_of 106 (Value.string ⟨#[0]⟩); refine (HC.out _ HOK.out.max).mono ?_; rintro e w1 ⟨rfl, hb1⟩) | (go_at_call_of 106 (Value.string ⟨#[32]⟩); refine (HC2.out _ (HOK.out.below hb1).max).mono ?_; rintro e w2 ⟨rfl, hb2⟩) | (go_at_call 107; refine (HK.out _).mono ?_; rintro e w3 ⟨rfl, rfl⟩) | (go_at_call 108; refine (HU2.out _ ((HOK.out.below hb1).below hb2)).mono ?_; rintro e w4 ⟨rfl, hb4⟩) | (go_at_call 109; refine (HCL.out _).mono ?_; rintro e w5 ⟨rfl, rfl⟩))
            go_ret3
            exact ⟨by rw [HO2.out]; rfl, below2 (below2 hb1 hb2) hb4⟩
theorem opn_len (L : List UInt8) : (opn L).2.1.length ≤ 1000000 := by
  unfold opn
  cases h0 : cutc 0 L with
  | none => simp
  | some p =>
    obtain ⟨hd, body⟩ := p
    simp only
    cases h1 : cutc 32 hd with
    | none => simp
    | some p =>
      obtain ⟨wd, d⟩ := p
      simp only
      by_cases hk : kn wd = 0
      · rw [if_pos hk]; simp
      · rw [if_neg hk]
        cases Cb.Dd.und d with
        | none => simp [opn3]
        | some n =>
          rw [opn3]
          split
          · simp
          · split
            · simp
            · split
              · simp
              · simp; omega
theorem sha_size (M : List UInt8) : (Sa.Sha.sha M).size = 32 := by
  simp [Sa.Sha.sha, Sa.Sha.out, Sa.Sha.bstr, ByteArray.size]
set_option maxHeartbeats 400000 in
theorem id_any (s : ByteArray) (w : World) (hs : s.size < 100000000) (hk : Ok w) :
    Calls Tryz.prog 18 #[.string s] w fun e w' => e = .returned (.string (Sa.Sha.sha s.data.toList)) ∧ Below w.heap.size w w' := by
  have H := hideIt (Sa.of_any s w hk.kat hs)
  clear hk
  go_enter Tryz.func18, Tryz.ntmps18
  go_wp2_with (first | (go_at_call 30; refine H.out.mono ?_; rintro e w1 ⟨rfl, hb1⟩))
  go_ret
  exact ⟨rfl, hb1⟩
set_option maxHeartbeats 400000 in
theorem refkind_any (k : Int) (h : 0 ≤ k ∧ k ≤ 4) (w : World) : Calls Tryz.prog 27 #[.int .i64 k] w fun e w' => e = .returned (.string (bs (kw k))) ∧ Below w.heap.size w w' := by
  rcases (by omega : k = 0 ∨ k = 1 ∨ k = 2 ∨ k = 3 ∨ k = 4) with rfl | rfl | rfl | rfl | rfl
  all_goals go_enter Tryz.func27, Tryz.ntmps27
  all_goals go_wp2
  all_goals go_ret
  all_goals exact ⟨rfl, (Below.refl _ _).alloc (Nat.le_refl _) _⟩
theorem raw_empty : rawR 1 [] = ([98, 108, 111, 98, 32, 48, 0], 0) := by decide +kernel
theorem opn_empty : opn [98, 108, 111, 98, 32, 48, 0] = (1, [], 0) := by decide +kernel
def fewS (s : ByteArray) : ByteArray := if 5000 < s.size then s.extract 0 5000 else s
theorem fewS_size (s : ByteArray) : (fewS s).size ≤ 5000 := by
  unfold fewS
  split
  · rw [ByteArray.size_extract]; omega
  · omega
end Ob
end Go.Proofs.YtdbbgpcjclmelaaGreatDoor
