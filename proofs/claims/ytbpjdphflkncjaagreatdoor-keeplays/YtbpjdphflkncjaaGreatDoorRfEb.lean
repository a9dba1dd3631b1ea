/- Refs: the document's bytes of refs: walked. -/
import Derived.Test.YtbpjdphflkncjaaGreatDoorRfEa
import Derived.Test.YtbpjdphflkncjaaGreatDoorCbRefh
namespace Go.Proofs.YtbpjdphflkncjaaGreatDoor.Rf
open Cb Go.RowKit Go.Shelf
set_option maxHeartbeats 3200000 in
set_option maxRecDepth 100000 in
theorem refencode_any (hd : ByteArray) (v : Value) (l : List Rf) (w : World) (h : RRow w v l) (hok : chkR hd l = 0) :
    Calls Tryz.prog 15 #[.agg #[.string hd, v]] w fun e w' => e = .returned (.string (Cb.bs (encL hd l))) ∧ Below w.heap.size w w' := by
  obtain ⟨W, hW⟩ : ∃ W, w.alloc (.cells #[.string hd, v] 30) = W := ⟨_, rfl⟩
  have hb : Below w.heap.size w W := by rw [← hW]; exact (Below.refl _ w).alloc (Nat.le_refl _) _
  have hsz : W.heap.size = w.heap.size + 1 := by rw [← hW]; simp
  have hcc : W.cell? ⟨w.heap.size, 0, none⟩ = some (.string hd) ∧ W.cell? ⟨w.heap.size, 1, none⟩ = some v := ⟨cellAt (by rw [← hW]; exact alloc_at rfl) rfl, cellAt (by rw [← hW]; exact alloc_at rfl) rfl⟩
  have HF : Hid (∀ w', Below W.heap.size W w' → w'.cell? ⟨w.heap.size, 1, none⟩ = some v) := hideIt (fun w' hb' => by rw [hb'.cell (p := ⟨w.heap.size, 1, none⟩) (by show w.heap.size < _; omega)]; exact hcc.2)
  have HB := hideIt hb
  have HW := hideIt hW
  obtain ⟨n, hn⟩ : ∃ n, l.length = n := ⟨_, rfl⟩
  have HN := hideIt hn
  have HR : Hid (∀ i x, l[i]? = some x → ∃ b o c, v = .slice (some ⟨b, o, none⟩) n c ∧ ∀ w', Below W.heap.size W w' → w'.cell? ⟨b, o + i * 2, none⟩ = some (.string x.nm) ∧ w'.cell? ⟨b, o + i * 2 + 1, none⟩ = some (.string x.id)) := hideIt (fun i x hi => by
    have hil := (List.getElem?_eq_some_iff.1 hi).1
    obtain ⟨b, o, c, e, _, _, h3⟩ := h.cells (by omega)
    rw [hn] at e
    exact ⟨b, o, c, e, fun w' hb' => h3 i x hi w' (below_step hb (Nat.le_refl _) hb')⟩)
  have HE : Hid (Cb.bs (encL hd l) = Cb.bs (encL hd l)) := rfl
  obtain ⟨wf1, wf2, wf3, wf4⟩ := chkR_wf hok
  rw [hn] at wf1
  have nI : (n : Int) ≤ 256 := by omega
  have hz70 : hd.size ≤ 70 := headB_size wf2
  have HWF := hideIt wf4
  have HWH := hideIt wf2
  have HX := hideIt (fun s w hs => refhex_any s w hs)
  have s5 : ¬ 9223372036854775807 < 5 + hd.size := by omega
  have s6 : ¬ 9223372036854775807 < 5 + hd.size + 1 := by omega
  have HT0 : Hid (((⟨#[104, 101, 97, 100, 32]⟩ : ByteArray) ++ hd ++ (⟨#[10]⟩ : ByteArray)).data.toList = encL hd (l.take 0)) := hideIt (by rw [cat_data, cat_data]; simp [encL, headL])
  obtain ⟨h0, a, c, hv, h1, h2, h3⟩ := h
  subst hv
  rw [hn] at HR h1 hcc HF HW ⊢
  obtain ⟨R, hR⟩ : ∃ R, Cb.bs (encL hd l) = R := ⟨_, rfl⟩
  have HRR := hideIt hR
  rw [hR]
  clear h0 h3 hn hb hW hcc wf2 wf3 wf4 HE hR hok
  go_enter Tryz.func15, Tryz.ntmps15
  go_wp2
  go_loopw [3, 4] (fun u t wr => ∃ i : Nat, i ≤ n ∧ t = .int .i64 (i : Int) ∧ (∃ U : ByteArray, u = .string U ∧ U.data.toList = encL hd (l.take i)) ∧ Below W.heap.size W wr) (fun _ t _ => n - (intOf t).toNat)
  case atStart => exact ⟨0, by omega, rfl, ⟨_, rfl, HT0.out⟩, by rw [HW.out]; exact Below.refl _ _⟩
  case round =>
    obtain ⟨i, hi, rfl, ⟨u, rfl, hu⟩, hbr⟩ := hrel
    have HBR := hideIt hbr
    have HU := hideIt hu
    have hcv := HF.out _ hbr
    have hus : u.size ≤ 40000 := by
      rw [← str_len, hu]
      have a1 := encL_len hd HWH.out (l.take i) (fun y hy => HWF.out y (List.mem_of_mem_take hy))
      rw [List.length_take] at a1
      omega
    by_cases hlt : i < n
    · have i0 : (0 : Int) ≤ (i : Int) := by omega
      have i1 : (i : Int) < (n : Int) := by omega
      have i2 : decide ((i : Int) < (n : Int)) = true := decide_eq_true i1
      obtain ⟨x, hxi⟩ : ∃ x, l[i]? = some x := ⟨l[i]'(by rw [HN.out]; exact hlt), by simp⟩
      obtain ⟨b, o, c', e, hcc⟩ := HR.out i x hxi
      cases e
      obtain ⟨c0, c1⟩ := hcc wr hbr
      have HCC := hideIt hcc
      have hxw := HWF.out x (List.mem_of_getElem? hxi)
      have hn70 := okN_size hxw.1
      have HXX := hideIt (fun w => HX.out x.id w (by have := hxw.2; omega))
      obtain ⟨U, hU⟩ : ∃ U, Cb.bs (Cd.hexL x.id.data.toList) = U := ⟨_, rfl⟩
      have hUs : U.size ≤ 64 := by rw [← hU, Cb.bs_size, Cd.hexL_len, str_len]; have := hxw.2; omega
      rw [hU] at HXX
      have HT : Hid ((u ++ (U ++ (⟨#[32]⟩ : ByteArray) ++ x.nm ++ (⟨#[10]⟩ : ByteArray))).data.toList = encL hd (l.take (i + 1))) := hideIt (by rw [encL_take hd l i x hxi, cat_data, cat_data, cat_data, cat_data, hu, ← hU, Cb.bs_list]; rfl)
      have s7 : ¬ 9223372036854775807 < U.size + 1 := by omega
      have s8 : ¬ 9223372036854775807 < U.size + 1 + x.nm.size := by omega
      have s9 : ¬ 9223372036854775807 < U.size + 1 + x.nm.size + 1 := by omega
      have s10 : ¬ 9223372036854775807 < u.size + (U.size + 1 + x.nm.size + 1) := by omega
      have HY : Hid (∀ w', Below wr.drew.heap.size wr.drew w' → w'.cell? ⟨w.heap.size, 1, none⟩ = some (.slice (some ⟨b, o, none⟩) n c) ∧ (w'.cell? ⟨b, o + i * 2, none⟩ = some (.string x.nm) ∧ w'.cell? ⟨b, o + i * 2 + 1, none⟩ = some (.string x.id)) ∧ Below W.heap.size W w') := hideIt (fun w' hb' => by
        have hq : Below W.heap.size W w' := below_step hbr.drew (Nat.le_refl _) hb'
        exact ⟨HF.out _ hq, HCC.out _ hq, hq⟩)
      clear hxw hcc hbr hU hu
      go_wp2
      go_region_with (first
        | (go_at_call 37; refine (HXX.out _).mono ?_; rintro e w2 ⟨rfl, hb2⟩; obtain ⟨r0, ⟨r1, r2⟩, r3⟩ := HY.out _ hb2; have HQ := hideIt r3; clear hb2 r3))
      all_goals go_wp2
      all_goals go_roundw
      all_goals first
        | exact ⟨i + 1, by omega, by go_num, ⟨_, rfl, HT.out⟩, HQ.out⟩
        | (simp [intOf]; omega)
    · have i2 : decide ((i : Int) < (n : Int)) = false := decide_eq_false (by omega)
      obtain rfl : i = n := by omega
      have HFN : Hid (u = R) := hideIt (by rw [← HRR.out, ← Cb.bs_data u, hu, ← HN.out, List.take_length])
      clear hbr hu
      go_wp2
      go_ret
      exact ⟨by rw [HFN.out]; rfl, below_step HB.out (Nat.le_refl _) HBR.out⟩
end Go.Proofs.YtbpjdphflkncjaaGreatDoor.Rf
