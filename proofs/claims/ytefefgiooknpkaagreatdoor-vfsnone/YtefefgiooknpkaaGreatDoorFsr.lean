/- Sync, Read, Up, and the two Writes that the statements make, walked. -/
import Derived.Test.YtefefgiooknpkaaGreatDoorWrt
namespace Go.Proofs.YtefefgiooknpkaaGreatDoor
open Go.RowKit Go.Shelf Go.Maps
variable {B0 : Nat}
section
variable {w : World} {fb b1 b2 b3 : Nat} {done : Value} {came used room steps n1 n2 n3 k : Nat} {D1 D2 D3 : DataW Value} {xs : List Value}
theorem St.step (h : St B0 w fb b1 b2 b3 done came used room steps n1 n2 n3 k D1 D2 D3 xs) (hs : steps < 900) :
    Calls Tryz.prog 38 #[.pointer (some ⟨fb, 0, none⟩)] w fun e w' => e = .returned (.int .i64 0) ∧ St B0 w' fb b1 b2 b3 done came used room (steps + 1) n1 n2 n3 k D1 D2 D3 xs ∧ Kept [fb] w w' := by
  refine (step_old steps (by omega) h.fs).mono fun e w' ⟨he, h1, h2⟩ => ⟨he, ?_, h2⟩
  have e1 := file_ne_map h.fs h.m1
  have e2 := file_ne_map h.fs h.m2
  have e3 := file_ne_map h.fs h.m3
  have e4 := row_ne_cells h.row h.fs (by decide)
  refine ⟨h1, h2.map h.m1 (by simpa using fun e => e1 e.symm), h2.map h.m2 (by simpa using fun e => e2 e.symm), h2.map h.m3 (by simpa using fun e => e3 e.symm), h2.row h.row (fun g hg => ?_), h.d12, h.d13, h.d23, Nat.le_trans h.ba h2.size⟩
  simp
  intro e
  subst e
  rw [hg] at e4
  simp at e4
theorem write_more (h : St B0 w fb b1 b2 b3 done came used room steps n1 n2 n3 k D1 D2 D3 xs) (hm : MaxAt w) (p s : ByteArray) (hp : p.size ≤ 140737488355328) (hs : s.size ≤ 1000) (hpath : pathL p.data.toList = true) (hp0 : p.data.toList ≠ []) (hd : dirOf p = ⟨#[]⟩)
    (hfit : used + s.size ≤ room) (hroom : room ≤ 200000) (hcame : came < 900) (hsteps : steps < 900) (hn1 : n1 < 900) (hn3 : n3 < 900) (hk : k < 900) (hh : Maps.has D1 (key p) = false) (hv : valAt D1 (key p) = .pointer none) :
    Calls Tryz.prog 12 #[.pointer (some ⟨fb, 0, none⟩), .string p, .string s] w fun e w' => e = .returned (.int .i64 0) ∧ ∃ done' xb, w.heap.size ≤ xb ∧
      St B0 w' fb b1 b2 b3 done' (came + 1) (used + s.size) room (steps + 1) (n1 + 1) n2 (n3 + 1) (k + 1) (D1.put (key p) (.held (.pointer (some ⟨xb, 0, none⟩)))) D2 (unsureD s D3 came xb) (xs ++ [.int .i64 0, .string p, .string ⟨#[]⟩, .pointer (some ⟨xb, 0, none⟩)]) ∧
      FileAt w' xb came s ⟨#[]⟩ 1 ∧ Kept (fb :: b1 :: b3 :: done.ownBlock.toList) w w' := by
  have hp' : p.size ≤ maxLen := by unfold maxLen; omega
  refine (write_comes (B0 := B0) h.fs hm p s hp hs hpath hd hfit hroom hcame (fun a b c => a = b1 ∧ b = b2 ∧ c = b3) n1 n2 n3 k D1 D2 D3 xs hn1 hn3 hk hh ?_ ?_ ?_ ?_).mono ?_
  · exact fun X hX => folder_root (.inr ⟨b1, n1, D1, rfl, hX.map h.m1 (by simp)⟩)
  · exact fun X hX => folder_gone (hX.map h.m1 (by simp)) p hp hp0 hh
  · exact fun X hX => by rw [look_at (hX.map h.m1 (by simp)) p hp', hv]
  · exact fun X hX => ((h.keep0 hX).step hsteps).mono fun e w' ⟨he, h1, h2⟩ => ⟨he, b1, b2, b3, ⟨rfl, rfl, rfl⟩, h1, h2⟩
  · rintro e w' ⟨he, _, _, _, done', xb, ⟨rfl, rfl, rfl⟩, h1, h2, h3, h4⟩
    exact ⟨he, done', xb, h1, h2, h3, h4⟩
set_option maxHeartbeats 800000 in
set_option maxRecDepth 100000 in
theorem sync_any (h : St B0 w fb b1 b2 b3 done came used room steps n1 n2 n3 k D1 D2 D3 xs) (hm : MaxAt w) (p : ByteArray) (hp : p.size ≤ 140737488355328) (hpath : pathL p.data.toList = true) (hsteps : steps < 900)
    {xb num : Nat} {now sure : ByteArray} {links : Int} (hh : Maps.has D1 (key p) = true) (hv : valAt D1 (key p) = .pointer (some ⟨xb, 0, none⟩)) (hF : FileAt w xb num now sure links) (hfx : fb ≠ xb) (hnum : num < 1000) :
    Calls Tryz.prog 13 #[.pointer (some ⟨fb, 0, none⟩), .string p] w fun e w' => e = .returned (.int .i64 0) ∧ St B0 w' fb b1 b2 b3 done came used room (steps + 1) n1 n2 n3 k D1 D2 (D3.del (.int .i64 num)) xs ∧ FileAt w' xb num now now links ∧ Kept [fb, xb, b3] w w' := by
  obtain ⟨W, hW⟩ : ∃ W, w.alloc (.cells #[.string p] 9) = W := ⟨_, rfl⟩
  have hkW : Kept [] w W := by rw [← hW]; exact Kept.alloc _ _
  have hrow : W.heap[w.heap.size]? = some (.cells #[.string p] 9 (0, 0)) := by rw [← hW]; exact alloc_at rfl
  have hS := h.keep0 hkW
  have HH := hideIt (hindered_one hS.fs (hkW.max hm (by simp)) p hp w.heap.size 9 hrow)
  have he : errPath p = 0 := by rw [errPath, if_pos hpath]
  rw [he] at HH
  have HA : Hid (∀ X, Below W.heap.size W X → Kept [] w X) := hideIt (fun X hX => (hkW.trans (Kept.of_below hX)).sub (by simp))
  have HF : Hid (∀ X, Kept [] w X → Calls Tryz.prog 42 #[.pointer (some ⟨fb, 0, none⟩), .string p] X fun e w' => e = .returned (.tuple #[.pointer (some ⟨xb, 0, none⟩), .int .i64 0]) ∧ w' = X) := hideIt (fun X hX => file_there (h.keep0 hX).fs (h.keep0 hX).m1 p hp hh hv)
  have HT : Hid (∀ X, Kept [] w X → Calls Tryz.prog 38 #[.pointer (some ⟨fb, 0, none⟩)] X fun e w' => e = .returned (.int .i64 0) ∧ St B0 w' fb b1 b2 b3 done came used room (steps + 1) n1 n2 n3 k D1 D2 D3 xs ∧ FileAt w' xb num now sure links ∧ Kept [fb] w w') := hideIt (fun X hX =>
    ((h.keep0 hX).step hsteps).mono fun e w' ⟨a1, a2, a3⟩ => ⟨a1, a2, a3.fs (hX.fs hF (by simp)) (by simpa using fun e => hfx e.symm), (hX.trans a3).sub (by simp)⟩)
  have HL : Hid (∀ X, St B0 X fb b1 b2 b3 done came used room (steps + 1) n1 n2 n3 k D1 D2 D3 xs → FileAt X xb num now sure links → Calls Tryz.prog 41 #[.pointer (some ⟨fb, 0, none⟩), .pointer (some ⟨xb, 0, none⟩), .string now, .string now] X.drew fun e w' => e = .returned (.tuple #[]) ∧
      St B0 w' fb b1 b2 b3 done came used room (steps + 1) n1 n2 n3 k D1 D2 (D3.del (.int .i64 num)) xs ∧ FileAt w' xb num now now links ∧ Kept [xb, b3] X w') := hideIt (fun X0 hS0 hF0 => by
    have hd0 : Kept [] X0 X0.drew := (Kept.refl [] X0).drew
    have hSX := hS0.keep0 hd0
    have hFX := hd0.fs hF0 (by simp)
    have e1 := file_ne_map hFX hSX.m1
    have e2 := file_ne_map hFX hSX.m2
    have e0 := file_ne_map hSX.fs hSX.m3
    have e4 := row_ne_cells hSX.row hFX (by decide)
    have e5 := row_ne_map hSX.row hSX.m3
    refine (lay_same hSX.fs hFX hSX.m3 hfx hnum now).mono fun e w' ⟨h0, h1, h2, h3⟩ => ⟨h0, ⟨h3.fs hSX.fs ?_, h3.map hSX.m1 ?_, h3.map hSX.m2 ?_, h2, h3.row hSX.row ?_, hSX.d12, hSX.d13, hSX.d23, Nat.le_trans hSX.ba h3.size⟩, h1, (hd0.trans h3).sub (by simp)⟩
    · simp; exact ⟨hfx, e0⟩
    · simp; exact ⟨fun e => e1 e.symm, hSX.d13⟩
    · simp; exact ⟨fun e => e2 e.symm, hSX.d23⟩
    · intro g hg
      rw [hg] at e4 e5
      simp at e4 e5 ⊢
      exact ⟨fun e => e4 e.symm, fun e => e5 e.symm⟩)
  clear h hm hpath hkW hrow hS he hh hv hF
  go_enter Tryz.func13, Tryz.ntmps13
  go_wp2_with (first | (go_at_call 35; refine HH.out.mono ?_; rintro e w1 ⟨rfl, hb1⟩; have HK1 := hideIt (HA.out w1 hb1)) | (go_at_call 42; refine (HF.out _ HK1.out).mono ?_; rintro e wx ⟨rfl, rfl⟩) | (go_at_call 38; refine (HT.out _ HK1.out).mono ?_; rintro e w2 ⟨rfl, hS2, hF2, hk2⟩))
  have x1 := fl1 hF2
  have HL2 := hideIt (HL.out w2 hS2 hF2)
  have HK2 := hideIt hk2
  clear hS2 hF2 hk2
  go_region_held3 (fun X => X.cell? ⟨xb, 1, none⟩ = some (.string now)) (first | exact x1 | exact fl1 (by assumption) | assumption) (first | (go_at_call 41; refine HL2.out.mono ?_; rintro e w3 ⟨rfl, hS3, hF3, hk3⟩))
  go_wp2
  go_ret
  exact ⟨rfl, hS3, hF3, (HK2.out.trans hk3).sub (by simp)⟩
set_option maxHeartbeats 800000 in
set_option maxRecDepth 100000 in
theorem read_there (hf : FsAt w fb (.map (some b1)) (.map (some b2)) done (.map (some b3)) came used room steps false) (h1 : NMap w b1 n1 D1) (hm : MaxAt w) (p : ByteArray) (hp : p.size ≤ 140737488355328) (hpath : pathL p.data.toList = true)
    {xb num : Nat} {now sure : ByteArray} {links : Int} (hh : Maps.has D1 (key p) = true) (hv : valAt D1 (key p) = .pointer (some ⟨xb, 0, none⟩)) (hF : FileAt w xb num now sure links) :
    Calls Tryz.prog 19 #[.pointer (some ⟨fb, 0, none⟩), .string p] w fun e w' => e = .returned (.tuple #[.string now, .int .i64 0]) ∧ Kept [] w w' := by
  obtain ⟨W, hW⟩ : ∃ W, w.alloc (.cells #[.string p] 9) = W := ⟨_, rfl⟩
  have hkW : Kept [] w W := by rw [← hW]; exact Kept.alloc _ _
  have hrow : W.heap[w.heap.size]? = some (.cells #[.string p] 9 (0, 0)) := by rw [← hW]; exact alloc_at rfl
  have HH := hideIt (hindered_one (hkW.fs hf (by simp)) (hkW.max hm (by simp)) p hp w.heap.size 9 hrow)
  have he : errPath p = 0 := by rw [errPath, if_pos hpath]
  rw [he] at HH
  have HA : Hid (∀ X, Below W.heap.size W X → Kept [] w X ∧ X.cell? ⟨xb, 1, none⟩ = some (.string now)) := hideIt (fun X hX => ⟨(hkW.trans (Kept.of_below hX)).sub (by simp), fl1 ((Kept.of_below hX).fs (hkW.fs hF (by simp)) (by simp))⟩)
  have HF : Hid (∀ X, Kept [] w X → Calls Tryz.prog 42 #[.pointer (some ⟨fb, 0, none⟩), .string p] X fun e w' => e = .returned (.tuple #[.pointer (some ⟨xb, 0, none⟩), .int .i64 0]) ∧ w' = X) := hideIt (fun X hX => file_there (hX.fs hf (by simp)) (hX.map h1 (by simp)) p hp hh hv)
  clear hf h1 hm hpath hkW hrow he hh hv hF
  go_enter Tryz.func19, Tryz.ntmps19
  go_wp2_with (first | (go_at_call 35; refine HH.out.mono ?_; rintro e w1 ⟨rfl, hb1⟩; obtain ⟨hk1, x1⟩ := HA.out w1 hb1; have HK1 := hideIt hk1; clear hk1) | (go_at_call 42; refine (HF.out _ HK1.out).mono ?_; rintro e wx ⟨rfl, rfl⟩))
  go_ret2
  exact ⟨rfl, HK1.out⟩
set_option maxHeartbeats 800000 in
set_option maxRecDepth 100000 in
theorem read_gone (hf : FsAt w fb (.map (some b1)) (.map (some b2)) done (.map (some b3)) came used room steps false) (h1 : NMap w b1 n1 D1) (hm : MaxAt w) (p : ByteArray) (hp : p.size ≤ 140737488355328) (hpath : pathL p.data.toList = true) (hh : Maps.has D1 (key p) = false) :
    Calls Tryz.prog 19 #[.pointer (some ⟨fb, 0, none⟩), .string p] w fun e w' => e = .returned (.tuple #[.string ⟨#[]⟩, .int .i64 2]) ∧ Kept [] w w' := by
  obtain ⟨W, hW⟩ : ∃ W, w.alloc (.cells #[.string p] 9) = W := ⟨_, rfl⟩
  have hkW : Kept [] w W := by rw [← hW]; exact Kept.alloc _ _
  have hrow : W.heap[w.heap.size]? = some (.cells #[.string p] 9 (0, 0)) := by rw [← hW]; exact alloc_at rfl
  have HH := hideIt (hindered_one (hkW.fs hf (by simp)) (hkW.max hm (by simp)) p hp w.heap.size 9 hrow)
  have he : errPath p = 0 := by rw [errPath, if_pos hpath]
  rw [he] at HH
  have HA : Hid (∀ X, Below W.heap.size W X → Kept [] w X) := hideIt (fun X hX => (hkW.trans (Kept.of_below hX)).sub (by simp))
  have HF : Hid (∀ X, Kept [] w X → Calls Tryz.prog 42 #[.pointer (some ⟨fb, 0, none⟩), .string p] X fun e w' => e = .returned (.tuple #[.pointer none, .int .i64 2]) ∧ w' = X) := hideIt (fun X hX => file_gone (hX.fs hf (by simp)) (hX.map h1 (by simp)) p hp hh)
  clear hf h1 hm hpath hkW hrow he hh
  go_enter Tryz.func19, Tryz.ntmps19
  go_wp2_with (first | (go_at_call 35; refine HH.out.mono ?_; rintro e w1 ⟨rfl, hb1⟩; have HK1 := hideIt (HA.out w1 hb1)) | (go_at_call 42; refine (HF.out _ HK1.out).mono ?_; rintro e wx ⟨rfl, rfl⟩))
  go_ret2
  exact ⟨rfl, HK1.out⟩
end
theorem write_fresh {w : World} {fb room : Nat} (h : FsAt w fb (.map none) (.map none) (.slice none 0 0) (.map none) 0 0 room 0 false) (hm : MaxAt w) (hB : B0 ≤ w.heap.size) (p s : ByteArray) (hp : p.size ≤ 140737488355328) (hs : s.size ≤ 1000) (hpath : pathL p.data.toList = true) (hp0 : p.data.toList ≠ []) (hd : dirOf p = ⟨#[]⟩)
    (hfit : s.size ≤ room) (hroom : room ≤ 200000) :
    Calls Tryz.prog 12 #[.pointer (some ⟨fb, 0, none⟩), .string p, .string s] w fun e w' => e = .returned (.int .i64 0) ∧ ∃ b1 b2 b3 done' xb, w.heap.size ≤ b1 ∧ w.heap.size ≤ b2 ∧ w.heap.size ≤ b3 ∧ w.heap.size ≤ xb ∧
      St B0 w' fb b1 b2 b3 done' 1 s.size room 1 1 0 1 1 (DataW.put (.map []) (key p) (.held (.pointer (some ⟨xb, 0, none⟩)))) (.map []) (unsureD s (.map []) 0 xb) [.int .i64 0, .string p, .string ⟨#[]⟩, .pointer (some ⟨xb, 0, none⟩)] ∧
      FileAt w' xb 0 s ⟨#[]⟩ 1 ∧ Kept [fb] w w' := by
  have hp' : p.size ≤ maxLen := by unfold maxLen; omega
  refine (write_comes (B0 := B0) (came := 0) (used := 0) (steps := 0) h hm p s hp hs hpath hd (by omega) hroom (by omega) (fun a b c => w.heap.size ≤ a ∧ w.heap.size ≤ b ∧ w.heap.size ≤ c) 0 0 0 0 (.map []) (.map []) (.map []) [] (by omega) (by omega) (by omega) rfl ?_ ?_ ?_ ?_).mono ?_
  · exact fun X hX => folder_root (.inl rfl)
  · exact fun X hX => folder_none p hp hp0
  · exact fun X hX => look_nil_at X p hp'
  · intro X hX
    have hsz := hX.size
    refine (step_new 0 (by omega) (hX.fs h (by simp))).mono fun e w' ⟨he, h1, h2, h3, h4, h5⟩ => ⟨he, X.heap.size, X.heap.size + 1, X.heap.size + 2, ⟨by omega, by omega, by omega⟩, ⟨h1, h2, h3, h4, ⟨rfl, .inl ⟨rfl, rfl⟩⟩, by omega, by omega, by omega, by have := h5.size; omega⟩, h5⟩
  · rintro e w' ⟨he, b1, b2, b3, done', xb, ⟨q1, q2, q3⟩, q4, h1, h2, h3⟩
    refine ⟨he, b1, b2, b3, done', xb, q1, q2, q3, q4, ?_, h2, h3.fresh (by simp [Value.ownBlock]; omega)⟩
    have e1 : 0 + s.size = s.size := Nat.zero_add _
    rw [e1] at h1
    exact h1
end Go.Proofs.YtefefgiooknpkaaGreatDoor
