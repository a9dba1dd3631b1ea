/- The document's commits: authors, commits checked and made, walked. -/
import Derived.Test.YtmjffngpaoaflaaGreatDoorOe
import Derived.Test.YtmjffngpaoaflaaGreatDoorOy
import Derived.Test.YtmjffngpaoaflaaGreatDoorLbAll
import Derived.Test.YtmjffngpaoaflaaGreatDoorCbAll
import Derived.Lib.ConvBytes
import Derived.Laws.IdiomStrings
namespace Go.Proofs.YtmjffngpaoaflaaGreatDoor
namespace Ob
open Go.RowKit Go.Shelf
/-- A text's bytes in a row of the call's own. -/
structure AMem (w0 : World) (l : List UInt8) (w : World) : Prop where
  blk : ∃ C : Array Value, w.heap[w0.heap.size]? = some (.cells C 5 (C.size, C.size + 1)) ∧ l.length ≤ C.size ∧ ∀ j (h : j < l.length), C[j]? = some (.int .u8 ((l[j]).toNat : Int))
  bel : Below w0.heap.size w0 w
theorem AMem.cell {w0 w : World} {l : List UInt8} (h : AMem w0 l w) (j : Nat) (hj : j < l.length) : w.cell? ⟨w0.heap.size, j, none⟩ = some (.int .u8 ((l[j]).toNat : Int)) := by
  obtain ⟨C, h1, -, h3⟩ := h.blk
  have := h3 j hj
  simp [World.cell?, h1, this]
theorem AMem.froz {w0 w : World} {l : List UInt8} (h : AMem w0 l w) (j : Nat) (hj : j < l.length) : w.frozen? ⟨w0.heap.size, j, none⟩ = false := by
  obtain ⟨C, h1, h2, -⟩ := h.blk
  simp [World.frozen?, h1]
  omega
theorem AMem.set {w0 w : World} {l : List UInt8} (h : AMem w0 l w) (j : Nat) (hj : j < l.length) (v : UInt8) : AMem w0 (l.set j v) (w.setCell ⟨w0.heap.size, j, none⟩ (.int .u8 (v.toNat : Int))) := by
  obtain ⟨C, h1, h2, h3⟩ := h.blk
  refine ⟨⟨C.setIfInBounds j (.int .u8 (v.toNat : Int)), ?_, by simp; exact h2, fun k hk => ?_⟩, h.bel.setCell (p := ⟨w0.heap.size, j, none⟩) (Nat.le_refl _) _⟩
  · simp [World.setCell, h1, Array.getElem?_modify]
  · rw [Array.getElem?_setIfInBounds]
    by_cases e : j = k
    · subst e
      rw [if_pos rfl, if_pos (by omega)]
      simp
    · rw [if_neg e, h3 k (by simpa using hk)]
      simp [e]
theorem AMem.start (s : ByteArray) (w : World) : AMem w s.data.toList (Lib.bytesWorld w 5 s) := by
  refine ⟨⟨Lib.bytesCells w 5 s, Lib.bytesWorld_at_new w 5 s, ?_, fun j hj => ?_⟩, Lib.bytesWorld_below w 5 s⟩
  · simp [Lib.bytesCells]
  · have hj2 : j < s.data.size := by simpa using hj
    simp only [Lib.bytesCells, Array.getElem?_append, Array.size_map]
    rw [if_pos hj2, Array.getElem?_map, Array.getElem?_eq_getElem hj2]
    simp
def mid (l : List UInt8) (i : Nat) : List UInt8 := rpL 45 (l.take i) ++ l.drop i
theorem mid_len (l : List UInt8) (i : Nat) : (mid l i).length = l.length := by
  simp [mid, rpL]
  omega
theorem mid_at (l : List UInt8) (i : Nat) (h : i < l.length) : (mid l i)[i]'(by rw [mid_len]; exact h) = l[i] := by
  have hl : (rpL 45 (l.take i)).length = i := by simp [rpL]; omega
  have : (mid l i)[i]? = some l[i] := by
    rw [mid, List.getElem?_append_right (by omega), hl, Nat.sub_self, List.getElem?_drop]
    simp [h]
  exact List.getElem_eq_iff (by rw [mid_len]; exact h) |>.2 this
theorem mid_next (l : List UInt8) (i : Nat) (h : i < l.length) : mid l (i + 1) = (mid l i).set i (if l[i] = 47 then 45 else l[i]) := by
  have hl : (rpL 45 (l.take i)).length = i := by simp [rpL]; omega
  unfold mid
  rw [List.set_append_right _ _ (by omega), hl, Nat.sub_self, List.drop_eq_getElem_cons h, List.set_cons_zero, List.take_succ_eq_append_getElem h]
  unfold rpL
  rw [List.map_append]
  simp
theorem mid_same (l : List UInt8) (i : Nat) (h : i < l.length) (hne : l[i] ≠ 47) : mid l (i + 1) = mid l i := by
  rw [mid_next l i h, if_neg hne]
  have := mid_at l i h
  conv => lhs; rw [← this]
  exact List.set_getElem_self _
theorem mid_all (l : List UInt8) : mid l l.length = rpL 45 l := by simp [mid]
set_option maxHeartbeats 800000 in
set_option maxRecDepth 100000 in
theorem refauthor_any (s : ByteArray) (w : World) (hs : s.size ≤ 1000000) :
    Calls Tryz.prog 35 #[.string s] w fun e w' => e = .returned (.bool (autB s)) ∧ Below w.heap.size w w' := by
  have HST := hideIt (AMem.start s w)
  have hcv := Lib.run_convert_string_bytes (P := Tryz.prog) w 9 97 5 s Tryz.underlying9 Tryz.underlying97 Tryz.underlying5
  have HNM : Hid (∀ w, Calls Tryz.prog 67 #[.string (bs (rpL 45 s.data.toList))] w fun e w' => e = .returned (.bool (autB s)) ∧ w = w') := hideIt (fun w => by
    have h := refname_any (bs (rpL 45 s.data.toList)) w (by rw [rp_size, str_len]; unfold maxLen; omega)
    rw [aut_other] at h
    exact h.mono fun _ _ h => ⟨h.1, h.2.symm⟩)
  obtain ⟨l, hl⟩ : ∃ l, s.data.toList = l := ⟨_, rfl⟩
  have hll : l.length = s.size := by rw [← hl, str_len]
  rw [hl] at HST HNM
  obtain ⟨n, hn⟩ : ∃ n, s.size = n := ⟨_, rfl⟩
  obtain ⟨cp, hcp⟩ : ∃ cp, grownCap w s.size 0 5 = cp := ⟨_, rfl⟩
  obtain ⟨W0, hW0⟩ : ∃ W0, Lib.bytesWorld w 5 s = W0 := ⟨_, rfl⟩
  rw [hcp, hW0, hn] at hcv
  rw [hW0] at HST
  rw [hn] at hll
  have HL := hideIt hll
  clear hcp hW0 hl
  go_enter Tryz.func35, Tryz.ntmps35
  go_wp2
  go_loopw [4] (fun t wr => ∃ i : Nat, i ≤ n ∧ t = .int .i64 i ∧ AMem w (mid l i) wr) (fun t _ => n - (intOf t).toNat)
  case atStart => exact ⟨0, by omega, rfl, by simpa [mid, rpL] using HST.out⟩
  case round =>
    obtain ⟨i, hi, rfl, hA⟩ := hrel
    have HA := hideIt hA
    by_cases hlt : i < n
    · have i1 : decide ((i : Int) < (n : Int)) = true := decide_eq_true (by omega)
      have i2 : (i : Int) < (n : Int) := by omega
      have hil : i < l.length := by rw [HL.out]; exact hlt
      have c0 := hA.cell i (by rw [mid_len]; exact hil)
      rw [mid_at l i hil] at c0
      have f0 := hA.froz i (by rw [mid_len]; exact hil)
      obtain ⟨x, hx⟩ : ∃ x, l[i] = x := ⟨_, rfl⟩
      rw [hx] at c0
      by_cases h47 : x = 47
      · subst h47
        have HS : Hid (AMem w (mid l (i + 1)) (wr.setCell ⟨w.heap.size, i, none⟩ (.int .u8 45))) := hideIt (by
          rw [mid_next l i hil, if_pos hx]
          exact HA.out.set i (by rw [mid_len]; exact hil) 45)
        have x1 : (((47 : UInt8).toNat : Int)) = 47 := rfl
        rw [x1] at c0
        clear hA hx hil hcv
        go_wp2
        go_roundw
        case rel => exact ⟨i + 1, by omega, by go_num, HS.out⟩
        case measure => simp [intOf]; omega
      · have HS := hideIt (mid_same l i hil (by rw [hx]; exact h47))
        have x1 : ((x.toNat : Int) == 47) = false := by
          have : (x.toNat : Int) ≠ 47 := fun e => h47 (by
            have e2 : x.toNat = 47 := by omega
            exact UInt8.toNat_inj.1 e2)
          simpa using this
        clear hA hx hil hcv
        go_wp2
        go_roundw
        case rel => exact ⟨i + 1, by omega, by go_num, by rw [HS.out]; exact HA.out⟩
        case measure => simp [intOf]; omega
    · have i1 : decide ((i : Int) < (n : Int)) = false := decide_eq_false (by omega)
      obtain rfl : i = n := by omega
      have hmid : mid l i = rpL 45 l := by rw [← HL.out, mid_all]
      rw [hmid] at hA
      have hrl : (rpL 45 l).length = i := by rw [rpL, List.length_map, HL.out]
      have hback : (convert 97 9 (.slice (some ⟨w.heap.size, 0, none⟩) i cp)).run Tryz.prog wr = .ok (.string (bs (rpL 45 l))) wr := by
        have h := run_convert_bytes_back (P := Tryz.prog) wr 97 9 5 ⟨w.heap.size, 0, none⟩ cp (rpL 45 l) Tryz.underlying97 Tryz.underlying5 Tryz.underlying9 (fun j hj => by rw [Addr.add_lit, Nat.zero_add]; exact hA.cell j hj)
        rw [hrl] at h
        exact h
      have HB := hideIt hA.bel
      clear hA hmid hcv
      go_wp2_with (first | (go_at_call 67; refine (HNM.out _).mono ?_; rintro e w1 ⟨rfl, rfl⟩))
      go_ret
      exact ⟨rfl, HB.out⟩
theorem cbx_drew {w : World} {N : Nat} {T : TypeId} {c : Cm} (h : CBox w N T c) (k : Nat) : CBox (w.drewN k) N T c := ⟨h.blk⟩
theorem memB_take (y z : ByteArray) (l : List ByteArray) (k : Nat) (h : l[k]? = some z) : memB y (l.take (k + 1)) = (memB y (l.take k) || (y.toList == z.toList)) := by
  unfold memB
  rw [List.take_add_one, h, List.any_append]
  simp
set_option maxHeartbeats 6000000 in
set_option maxRecDepth 100000 in
theorem refcheckCommit_any (c : Cm) (w : World) (hrow : SRow w c.pv c.ps) (h2 : c.au.size ≤ 1000000) (h3 : c.tx.size ≤ 1000000) :
    Calls Tryz.prog 14 #[cmV c] w fun e w' => e = .returned (.int .i64 (comE c)) ∧ Below w.heap.size w w' := by
  have HNB := hideIt (CBox.new w 43 c)
  have HAB := hideIt (new_below w (cmO c 43))
  have HE : Hid (comE c = if 4 < c.ps.length then 3 else if comOk c = true then 0 else 6) := rfl
  have HO : Hid (comOk c = (idB c.tr && parB c.ps && autB c.au && textB c.tx)) := rfl
  have HPB : Hid (parB c.ps = parF c.ps c.ps.length) := rfl
  obtain ⟨tr, pv, ps, au, tm, tx⟩ := c
  simp only at hrow h2 h3 HE HO HPB
  unfold cmV
  obtain ⟨a, cc, rfl, hlc, hcm, hcells⟩ := hrow
  have HCE := hideIt hcells
  obtain ⟨n, hn⟩ : ∃ n, ps.length = n := ⟨_, rfl⟩
  have HN := hideIt hn
  rw [hn] at HE HPB HNB HAB HO hlc ⊢
  have hcm1 := hcm.1
  unfold maxLen at hcm1
  unfold cmO at HNB HAB
  simp only at HNB HAB ⊢
  by_cases hk : 4 < n
  · rw [if_pos hk] at HE
    have k1 : (4 : Int) < (n : Int) := by omega
    go_enter Tryz.func14, Tryz.ntmps14
    go_wp2_with fail
    go_ret
    exact ⟨by rw [HE.out] <;> rfl, HAB.out⟩
  · rw [if_neg hk] at HE
    have k1 : ¬ (4 : Int) < (n : Int) := by omega
    have HA := hideIt (fun w => refauthor_any au w h2)
    have HT := hideIt (fun w => reftext_any tx w h3)
    have HI : Hid (idB tr = decide (tr.size = 32)) := rfl
    obtain ⟨u, hu⟩ : ∃ u, autB au = u := ⟨_, rfl⟩
    obtain ⟨x, hx⟩ : ∃ x, textB tx = x := ⟨_, rfl⟩
    rw [hu] at HA HO
    rw [hx] at HT HO
    clear hcells hn hcm h2 h3 hu hx
    by_cases hI : tr.size = 32
    · have q1 : (tr.size : Int) = 32 := by omega
      rw [HI.out, decide_eq_true hI, Bool.true_and] at HO
      cases u with
      | false =>
        go_enter Tryz.func14, Tryz.ntmps14
        go_wp2_with (first | (go_at_call 35; refine (HA.out _).mono ?_; rintro e w2 ⟨rfl, hb2⟩; have HN2 := hideIt (HNB.out.below hb2); have HB2 := hideIt (below2 HAB.out hb2)) | (go_at_call 36; refine (HT.out _).mono ?_; rintro e w3 ⟨rfl, rfl⟩))
        have HX0 := hideIt (HN2.out)
        have HY0 := hideIt (HB2.out)
        go_loopw [3, 4] (fun b t wr => ∃ i : Nat, i ≤ n ∧ t = .int .i64 i ∧ b = .bool (false && parF ps i) ∧ CBox wr w.heap.size 43 ⟨tr, .slice a n cc, ps, au, tm, tx⟩ ∧ Below w.heap.size w wr) (fun _ t _ => n - (intOf t).toNat)
        case atStart => exact ⟨0, by omega, rfl, by simp [parF], HX0.out, HY0.out⟩
        case round =>
          obtain ⟨i, hi, rfl, rfl, hbx, hbl⟩ := hrel
          have HBX := hideIt hbx
          have HBL := hideIt hbl
          have c1 := hbx.c1
          simp only at c1
          by_cases hlt : i < n
          · have i1 : decide ((i : Int) < (n : Int)) = true := decide_eq_true (by omega)
            have i2 : (i : Int) < (n : Int) := by omega
            obtain ⟨b0, o, rfl, hcells⟩ := HCE.out (by rw [HN.out]; omega)
            have HCV := hideIt hcells
            obtain ⟨y, hyi⟩ : ∃ y, ps[i]? = some y := ⟨ps[i]'(by rw [HN.out]; exact hlt), by simp⟩
            have c0 := (hcells.below hbl).2 i y hyi
            have HSU := hideIt (parF_succ ps i y hyi)
            have HYI := hideIt hyi
            have HID : Hid (idB y = decide (y.size = 32)) := rfl
            obtain ⟨g, hg⟩ : ∃ g, (false && parF ps i) = g := ⟨_, rfl⟩
            have HNX0 : Hid (∀ q, q = (g && idB y) → ∀ v, v = (q && !memB y (ps.take i)) → Value.bool v = .bool (false && parF ps (i + 1))) := hideIt (fun q hq v hv => by
              rw [hv, hq, HSU.out, ← hg]
              simp)
            rw [hg]
            have HSTP : Hid (∃ p : Bool, p = (g && idB y) ∧ (g = true → ((y.size : Int) == 32) = p)) := hideIt ⟨g && idB y, rfl, fun e => by
              rw [e, Bool.true_and, HID.out]
              by_cases h : y.size = 32
              · have : (y.size : Int) = 32 := by omega
                rw [decide_eq_true h]; simpa using this
              · have : ¬ (y.size : Int) = 32 := by omega
                rw [decide_eq_false h]; simpa using this⟩
            obtain ⟨p, hp, hp2⟩ := HSTP.out
            have HP := hideIt hp
            clear hcells hyi hbx hbl hg hp HSTP
            cases hgv : g with
            | false =>
              have hp0 : p = false := by rw [HP.out, hgv]; rfl
              have HNX : Hid (Value.bool false = .bool (false && parF ps (i + 1))) := hideIt (HNX0.out p HP.out false (by rw [hp0]; rfl))
              clear hp2 hp0
              go_wp2
              go_loopw [3, 5] (fun b k wr' => ∃ j : Nat, j ≤ i ∧ k = .int .i64 j ∧ b = .bool false ∧ CBox wr' w.heap.size 43 ⟨tr, .slice (some ⟨b0, o, none⟩) n cc, ps, au, tm, tx⟩ ∧ Below w.heap.size w wr') (fun _ k _ => i - (intOf k).toNat)
              case atStart => exact ⟨0, by omega, rfl, rfl, HBX.out, HBL.out⟩
              case round =>
                rename_i wr'
                obtain ⟨j, hj, rfl, rfl, hcx, hcl⟩ := hrel
                have HCX := hideIt hcx
                have HCL := hideIt hcl
                have c11 := hcx.c1
                simp only at c11
                have c01 := (HCV.out.below hcl).2 i y HYI.out
                clear hcx hcl
                by_cases hjl : j < i
                · have d1 : decide ((j : Int) < (i : Int)) = true := decide_eq_true (by omega)
                  have d2 : (j : Int) < (i : Int) := by omega
                  go_wp2
                  go_quiet (fail)
                  go_wp2
                  go_roundw
                  case rel => exact ⟨j + 1, by omega, by go_num, rfl, cbx_drew HCX.out _, below2 HCL.out (below_drewN _ _)⟩
                  case measure => simp [intOf]; omega
                · have d1 : decide ((j : Int) < (i : Int)) = false := decide_eq_false (by omega)
                  obtain rfl : j = i := by omega
                  go_wp2
                  go_roundw
                  case rel => exact ⟨j + 1, by omega, by go_num, HNX.out, HCX.out, HCL.out⟩
                  case measure => simp [intOf]; omega
            | true =>
              have hp1 := hp2 hgv
              cases p with
              | false =>
                have HNX : Hid (Value.bool false = .bool (false && parF ps (i + 1))) := hideIt (HNX0.out false HP.out false rfl)
                clear hp2
                go_wp2
                go_loopw [3, 5] (fun b k wr' => ∃ j : Nat, j ≤ i ∧ k = .int .i64 j ∧ b = .bool false ∧ CBox wr' w.heap.size 43 ⟨tr, .slice (some ⟨b0, o, none⟩) n cc, ps, au, tm, tx⟩ ∧ Below w.heap.size w wr') (fun _ k _ => i - (intOf k).toNat)
                case atStart => exact ⟨0, by omega, rfl, rfl, HBX.out, HBL.out⟩
                case round =>
                  rename_i wr'
                  obtain ⟨j, hj, rfl, rfl, hcx, hcl⟩ := hrel
                  have HCX := hideIt hcx
                  have HCL := hideIt hcl
                  have c11 := hcx.c1
                  simp only at c11
                  have c01 := (HCV.out.below hcl).2 i y HYI.out
                  clear hcx hcl
                  by_cases hjl : j < i
                  · have d1 : decide ((j : Int) < (i : Int)) = true := decide_eq_true (by omega)
                    have d2 : (j : Int) < (i : Int) := by omega
                    go_wp2
                    go_quiet (fail)
                    go_wp2
                    go_roundw
                    case rel => exact ⟨j + 1, by omega, by go_num, rfl, cbx_drew HCX.out _, below2 HCL.out (below_drewN _ _)⟩
                    case measure => simp [intOf]; omega
                  · have d1 : decide ((j : Int) < (i : Int)) = false := decide_eq_false (by omega)
                    obtain rfl : j = i := by omega
                    go_wp2
                    go_roundw
                    case rel => exact ⟨j + 1, by omega, by go_num, HNX.out, HCX.out, HCL.out⟩
                    case measure => simp [intOf]; omega
              | true =>
                have HNX : Hid (Value.bool (!memB y (ps.take i)) = .bool (false && parF ps (i + 1))) := hideIt (HNX0.out true HP.out _ (by simp))
                clear hp2
                go_wp2
                go_loopw [3, 5] (fun b k wr' => ∃ j : Nat, j ≤ i ∧ k = .int .i64 j ∧ b = .bool (!memB y (ps.take j)) ∧ CBox wr' w.heap.size 43 ⟨tr, .slice (some ⟨b0, o, none⟩) n cc, ps, au, tm, tx⟩ ∧ Below w.heap.size w wr') (fun _ k _ => i - (intOf k).toNat)
                case atStart => exact ⟨0, by omega, rfl, by simp [memB], HBX.out, HBL.out⟩
                case round =>
                  rename_i wr'
                  obtain ⟨j, hj, rfl, rfl, hcx, hcl⟩ := hrel
                  have HCX := hideIt hcx
                  have HCL := hideIt hcl
                  have c11 := hcx.c1
                  simp only at c11
                  have c01 := (HCV.out.below hcl).2 i y HYI.out
                  clear hcx hcl
                  by_cases hjl : j < i
                  · have d1 : decide ((j : Int) < (i : Int)) = true := decide_eq_true (by omega)
                    have d2 : (j : Int) < (i : Int) := by omega
                    have d3 : (j : Int) < (n : Int) := by omega
                    obtain ⟨z, hzj⟩ : ∃ z, ps[j]? = some z := ⟨ps[j]'(by rw [HN.out]; omega), by simp⟩
                    have cz := (HCV.out.below HCL.out).2 j z hzj
                    have HMT := hideIt (memB_take y z ps j hzj)
                    obtain ⟨m, hm⟩ : ∃ m, memB y (ps.take j) = m := ⟨_, rfl⟩
                    rw [hm] at HMT
                    rw [hm]
                    clear hzj hm
                    cases m with
                    | true =>
                      simp only [Bool.not_true]
                      go_wp2
                      go_quiet (fail)
                      go_wp2
                      go_roundw
                      case rel => exact ⟨j + 1, by omega, by go_num, by rw [HMT.out]; rfl, cbx_drew HCX.out _, below2 HCL.out (below_drewN _ _)⟩
                      case measure => simp [intOf]; omega
                    | false =>
                      simp only [Bool.not_false]
                      by_cases hzy : z = y
                      · have z1 : (z.toList == y.toList) = true := by rw [bytes_eq, decide_eq_true hzy]
                        have z2 : (z.toList != y.toList) = false := by rw [bne, z1]; rfl
                        have z3 : (y.toList == z.toList) = true := by rw [bytes_eq, decide_eq_true hzy.symm]
                        have HMZ := hideIt z3
                        clear z3 hzy
                        go_wp2
                        go_quiet (fail)
                        go_wp2
                        go_roundw
                        case rel => exact ⟨j + 1, by omega, by go_num, by rw [HMT.out, HMZ.out]; rfl, cbx_drew HCX.out _, below2 HCL.out (below_drewN _ _)⟩
                        case measure => simp [intOf]; omega
                      · have z1 : (z.toList == y.toList) = false := by rw [bytes_eq, decide_eq_false hzy]
                        have z2 : (z.toList != y.toList) = true := by rw [bne, z1]; rfl
                        have z3 : (y.toList == z.toList) = false := by rw [bytes_eq, decide_eq_false (fun e => hzy e.symm)]
                        have HMZ := hideIt z3
                        clear z3 hzy
                        go_wp2
                        go_quiet (fail)
                        go_wp2
                        go_roundw
                        case rel => exact ⟨j + 1, by omega, by go_num, by rw [HMT.out, HMZ.out]; rfl, cbx_drew HCX.out _, below2 HCL.out (below_drewN _ _)⟩
                        case measure => simp [intOf]; omega
                  · have d1 : decide ((j : Int) < (i : Int)) = false := decide_eq_false (by omega)
                    obtain rfl : j = i := by omega
                    go_wp2
                    go_roundw
                    case rel => exact ⟨j + 1, by omega, by go_num, HNX.out, HCX.out, HCL.out⟩
                    case measure => simp [intOf]; omega
          · have i1 : decide ((i : Int) < (n : Int)) = false := decide_eq_false (by omega)
            obtain rfl : i = n := by omega
            have HF : Hid (comOk ⟨tr, .slice a i cc, ps, au, tm, tx⟩ = (false && parF ps i)) := hideIt (by rw [HO.out]; simp)
            obtain ⟨g, hg⟩ : ∃ g, (false && parF ps i) = g := ⟨_, rfl⟩
            rw [hg] at HF
            rw [hg]
            clear hbx hbl hg
            cases g with
            | false =>
              rw [HF.out, if_neg (by decide)] at HE
              go_wp2
              go_ret
              exact ⟨by rw [HE.out] <;> rfl, HBL.out⟩
            | true =>
              rw [HF.out, if_pos rfl] at HE
              go_wp2
              go_ret
              exact ⟨by rw [HE.out] <;> rfl, HBL.out⟩
      | true =>
        go_enter Tryz.func14, Tryz.ntmps14
        go_wp2_with (first | (go_at_call 35; refine (HA.out _).mono ?_; rintro e w2 ⟨rfl, hb2⟩; have HN2 := hideIt (HNB.out.below hb2); have c4 := HN2.out.c4; have HB2 := hideIt (below2 HAB.out hb2)) | (go_at_call 36; refine (HT.out _).mono ?_; rintro e w3 ⟨rfl, rfl⟩))
        have HX0 := hideIt (HN2.out)
        have HY0 := hideIt (HB2.out)
        go_loopw [3, 4] (fun b t wr => ∃ i : Nat, i ≤ n ∧ t = .int .i64 i ∧ b = .bool (x && parF ps i) ∧ CBox wr w.heap.size 43 ⟨tr, .slice a n cc, ps, au, tm, tx⟩ ∧ Below w.heap.size w wr) (fun _ t _ => n - (intOf t).toNat)
        case atStart => exact ⟨0, by omega, rfl, by simp [parF], HX0.out, HY0.out⟩
        case round =>
          obtain ⟨i, hi, rfl, rfl, hbx, hbl⟩ := hrel
          have HBX := hideIt hbx
          have HBL := hideIt hbl
          have c1 := hbx.c1
          simp only at c1
          by_cases hlt : i < n
          · have i1 : decide ((i : Int) < (n : Int)) = true := decide_eq_true (by omega)
            have i2 : (i : Int) < (n : Int) := by omega
            obtain ⟨b0, o, rfl, hcells⟩ := HCE.out (by rw [HN.out]; omega)
            have HCV := hideIt hcells
            obtain ⟨y, hyi⟩ : ∃ y, ps[i]? = some y := ⟨ps[i]'(by rw [HN.out]; exact hlt), by simp⟩
            have c0 := (hcells.below hbl).2 i y hyi
            have HSU := hideIt (parF_succ ps i y hyi)
            have HYI := hideIt hyi
            have HID : Hid (idB y = decide (y.size = 32)) := rfl
            obtain ⟨g, hg⟩ : ∃ g, (x && parF ps i) = g := ⟨_, rfl⟩
            have HNX0 : Hid (∀ q, q = (g && idB y) → ∀ v, v = (q && !memB y (ps.take i)) → Value.bool v = .bool (x && parF ps (i + 1))) := hideIt (fun q hq v hv => by
              rw [hv, hq, HSU.out, ← hg]
              simp [Bool.and_assoc])
            rw [hg]
            have HSTP : Hid (∃ p : Bool, p = (g && idB y) ∧ (g = true → ((y.size : Int) == 32) = p)) := hideIt ⟨g && idB y, rfl, fun e => by
              rw [e, Bool.true_and, HID.out]
              by_cases h : y.size = 32
              · have : (y.size : Int) = 32 := by omega
                rw [decide_eq_true h]; simpa using this
              · have : ¬ (y.size : Int) = 32 := by omega
                rw [decide_eq_false h]; simpa using this⟩
            obtain ⟨p, hp, hp2⟩ := HSTP.out
            have HP := hideIt hp
            clear hcells hyi hbx hbl hg hp HSTP
            cases hgv : g with
            | false =>
              have hp0 : p = false := by rw [HP.out, hgv]; rfl
              have HNX : Hid (Value.bool false = .bool (x && parF ps (i + 1))) := hideIt (HNX0.out p HP.out false (by rw [hp0]; rfl))
              clear hp2 hp0
              go_wp2
              go_loopw [3, 5] (fun b k wr' => ∃ j : Nat, j ≤ i ∧ k = .int .i64 j ∧ b = .bool false ∧ CBox wr' w.heap.size 43 ⟨tr, .slice (some ⟨b0, o, none⟩) n cc, ps, au, tm, tx⟩ ∧ Below w.heap.size w wr') (fun _ k _ => i - (intOf k).toNat)
              case atStart => exact ⟨0, by omega, rfl, rfl, HBX.out, HBL.out⟩
              case round =>
                rename_i wr'
                obtain ⟨j, hj, rfl, rfl, hcx, hcl⟩ := hrel
                have HCX := hideIt hcx
                have HCL := hideIt hcl
                have c11 := hcx.c1
                simp only at c11
                have c01 := (HCV.out.below hcl).2 i y HYI.out
                clear hcx hcl
                by_cases hjl : j < i
                · have d1 : decide ((j : Int) < (i : Int)) = true := decide_eq_true (by omega)
                  have d2 : (j : Int) < (i : Int) := by omega
                  go_wp2
                  go_quiet (fail)
                  go_wp2
                  go_roundw
                  case rel => exact ⟨j + 1, by omega, by go_num, rfl, cbx_drew HCX.out _, below2 HCL.out (below_drewN _ _)⟩
                  case measure => simp [intOf]; omega
                · have d1 : decide ((j : Int) < (i : Int)) = false := decide_eq_false (by omega)
                  obtain rfl : j = i := by omega
                  go_wp2
                  go_roundw
                  case rel => exact ⟨j + 1, by omega, by go_num, HNX.out, HCX.out, HCL.out⟩
                  case measure => simp [intOf]; omega
            | true =>
              have hp1 := hp2 hgv
              cases p with
              | false =>
                have HNX : Hid (Value.bool false = .bool (x && parF ps (i + 1))) := hideIt (HNX0.out false HP.out false rfl)
                clear hp2
                go_wp2
                go_loopw [3, 5] (fun b k wr' => ∃ j : Nat, j ≤ i ∧ k = .int .i64 j ∧ b = .bool false ∧ CBox wr' w.heap.size 43 ⟨tr, .slice (some ⟨b0, o, none⟩) n cc, ps, au, tm, tx⟩ ∧ Below w.heap.size w wr') (fun _ k _ => i - (intOf k).toNat)
                case atStart => exact ⟨0, by omega, rfl, rfl, HBX.out, HBL.out⟩
                case round =>
                  rename_i wr'
                  obtain ⟨j, hj, rfl, rfl, hcx, hcl⟩ := hrel
                  have HCX := hideIt hcx
                  have HCL := hideIt hcl
                  have c11 := hcx.c1
                  simp only at c11
                  have c01 := (HCV.out.below hcl).2 i y HYI.out
                  clear hcx hcl
                  by_cases hjl : j < i
                  · have d1 : decide ((j : Int) < (i : Int)) = true := decide_eq_true (by omega)
                    have d2 : (j : Int) < (i : Int) := by omega
                    go_wp2
                    go_quiet (fail)
                    go_wp2
                    go_roundw
                    case rel => exact ⟨j + 1, by omega, by go_num, rfl, cbx_drew HCX.out _, below2 HCL.out (below_drewN _ _)⟩
                    case measure => simp [intOf]; omega
                  · have d1 : decide ((j : Int) < (i : Int)) = false := decide_eq_false (by omega)
                    obtain rfl : j = i := by omega
                    go_wp2
                    go_roundw
                    case rel => exact ⟨j + 1, by omega, by go_num, HNX.out, HCX.out, HCL.out⟩
                    case measure => simp [intOf]; omega
              | true =>
                have HNX : Hid (Value.bool (!memB y (ps.take i)) = .bool (x && parF ps (i + 1))) := hideIt (HNX0.out true HP.out _ (by simp))
                clear hp2
                go_wp2
                go_loopw [3, 5] (fun b k wr' => ∃ j : Nat, j ≤ i ∧ k = .int .i64 j ∧ b = .bool (!memB y (ps.take j)) ∧ CBox wr' w.heap.size 43 ⟨tr, .slice (some ⟨b0, o, none⟩) n cc, ps, au, tm, tx⟩ ∧ Below w.heap.size w wr') (fun _ k _ => i - (intOf k).toNat)
                case atStart => exact ⟨0, by omega, rfl, by simp [memB], HBX.out, HBL.out⟩
                case round =>
                  rename_i wr'
                  obtain ⟨j, hj, rfl, rfl, hcx, hcl⟩ := hrel
                  have HCX := hideIt hcx
                  have HCL := hideIt hcl
                  have c11 := hcx.c1
                  simp only at c11
                  have c01 := (HCV.out.below hcl).2 i y HYI.out
                  clear hcx hcl
                  by_cases hjl : j < i
                  · have d1 : decide ((j : Int) < (i : Int)) = true := decide_eq_true (by omega)
                    have d2 : (j : Int) < (i : Int) := by omega
                    have d3 : (j : Int) < (n : Int) := by omega
                    obtain ⟨z, hzj⟩ : ∃ z, ps[j]? = some z := ⟨ps[j]'(by rw [HN.out]; omega), by simp⟩
                    have cz := (HCV.out.below HCL.out).2 j z hzj
                    have HMT := hideIt (memB_take y z ps j hzj)
                    obtain ⟨m, hm⟩ : ∃ m, memB y (ps.take j) = m := ⟨_, rfl⟩
                    rw [hm] at HMT
                    rw [hm]
                    clear hzj hm
                    cases m with
                    | true =>
                      simp only [Bool.not_true]
                      go_wp2
                      go_quiet (fail)
                      go_wp2
                      go_roundw
                      case rel => exact ⟨j + 1, by omega, by go_num, by rw [HMT.out]; rfl, cbx_drew HCX.out _, below2 HCL.out (below_drewN _ _)⟩
                      case measure => simp [intOf]; omega
                    | false =>
                      simp only [Bool.not_false]
                      by_cases hzy : z = y
                      · have z1 : (z.toList == y.toList) = true := by rw [bytes_eq, decide_eq_true hzy]
                        have z2 : (z.toList != y.toList) = false := by rw [bne, z1]; rfl
                        have z3 : (y.toList == z.toList) = true := by rw [bytes_eq, decide_eq_true hzy.symm]
                        have HMZ := hideIt z3
                        clear z3 hzy
                        go_wp2
                        go_quiet (fail)
                        go_wp2
                        go_roundw
                        case rel => exact ⟨j + 1, by omega, by go_num, by rw [HMT.out, HMZ.out]; rfl, cbx_drew HCX.out _, below2 HCL.out (below_drewN _ _)⟩
                        case measure => simp [intOf]; omega
                      · have z1 : (z.toList == y.toList) = false := by rw [bytes_eq, decide_eq_false hzy]
                        have z2 : (z.toList != y.toList) = true := by rw [bne, z1]; rfl
                        have z3 : (y.toList == z.toList) = false := by rw [bytes_eq, decide_eq_false (fun e => hzy e.symm)]
                        have HMZ := hideIt z3
                        clear z3 hzy
                        go_wp2
                        go_quiet (fail)
                        go_wp2
                        go_roundw
                        case rel => exact ⟨j + 1, by omega, by go_num, by rw [HMT.out, HMZ.out]; rfl, cbx_drew HCX.out _, below2 HCL.out (below_drewN _ _)⟩
                        case measure => simp [intOf]; omega
                  · have d1 : decide ((j : Int) < (i : Int)) = false := decide_eq_false (by omega)
                    obtain rfl : j = i := by omega
                    go_wp2
                    go_roundw
                    case rel => exact ⟨j + 1, by omega, by go_num, HNX.out, HCX.out, HCL.out⟩
                    case measure => simp [intOf]; omega
          · have i1 : decide ((i : Int) < (n : Int)) = false := decide_eq_false (by omega)
            obtain rfl : i = n := by omega
            have HF : Hid (comOk ⟨tr, .slice a i cc, ps, au, tm, tx⟩ = (x && parF ps i)) := hideIt (by rw [HO.out, HPB.out]; simp [Bool.and_comm])
            obtain ⟨g, hg⟩ : ∃ g, (x && parF ps i) = g := ⟨_, rfl⟩
            rw [hg] at HF
            rw [hg]
            clear hbx hbl hg
            cases g with
            | false =>
              rw [HF.out, if_neg (by decide)] at HE
              go_wp2
              go_ret
              exact ⟨by rw [HE.out] <;> rfl, HBL.out⟩
            | true =>
              rw [HF.out, if_pos rfl] at HE
              go_wp2
              go_ret
              exact ⟨by rw [HE.out] <;> rfl, HBL.out⟩
    · have q1 : ((tr.size : Int) == 32) = false := by
        have : ¬ (tr.size : Int) = 32 := by omega
        simpa using this
      rw [HI.out, decide_eq_false hI, Bool.false_and, Bool.false_and, Bool.false_and] at HO
      go_enter Tryz.func14, Tryz.ntmps14
      go_wp2_with (first | (go_at_call 35; refine (HA.out _).mono ?_; rintro e w2 ⟨rfl, hb2⟩))
      have HX0 := hideIt (HNB.out)
      have HY0 := hideIt (HAB.out)
      go_loopw [3, 4] (fun b t wr => ∃ i : Nat, i ≤ n ∧ t = .int .i64 i ∧ b = .bool (false && parF ps i) ∧ CBox wr w.heap.size 43 ⟨tr, .slice a n cc, ps, au, tm, tx⟩ ∧ Below w.heap.size w wr) (fun _ t _ => n - (intOf t).toNat)
      case atStart => exact ⟨0, by omega, rfl, by simp [parF], HX0.out, HY0.out⟩
      case round =>
        obtain ⟨i, hi, rfl, rfl, hbx, hbl⟩ := hrel
        have HBX := hideIt hbx
        have HBL := hideIt hbl
        have c1 := hbx.c1
        simp only at c1
        by_cases hlt : i < n
        · have i1 : decide ((i : Int) < (n : Int)) = true := decide_eq_true (by omega)
          have i2 : (i : Int) < (n : Int) := by omega
          obtain ⟨b0, o, rfl, hcells⟩ := HCE.out (by rw [HN.out]; omega)
          have HCV := hideIt hcells
          obtain ⟨y, hyi⟩ : ∃ y, ps[i]? = some y := ⟨ps[i]'(by rw [HN.out]; exact hlt), by simp⟩
          have c0 := (hcells.below hbl).2 i y hyi
          have HSU := hideIt (parF_succ ps i y hyi)
          have HYI := hideIt hyi
          have HID : Hid (idB y = decide (y.size = 32)) := rfl
          obtain ⟨g, hg⟩ : ∃ g, (false && parF ps i) = g := ⟨_, rfl⟩
          have HNX0 : Hid (∀ q, q = (g && idB y) → ∀ v, v = (q && !memB y (ps.take i)) → Value.bool v = .bool (false && parF ps (i + 1))) := hideIt (fun q hq v hv => by
            rw [hv, hq, HSU.out, ← hg]
            simp)
          rw [hg]
          have HSTP : Hid (∃ p : Bool, p = (g && idB y) ∧ (g = true → ((y.size : Int) == 32) = p)) := hideIt ⟨g && idB y, rfl, fun e => by
            rw [e, Bool.true_and, HID.out]
            by_cases h : y.size = 32
            · have : (y.size : Int) = 32 := by omega
              rw [decide_eq_true h]; simpa using this
            · have : ¬ (y.size : Int) = 32 := by omega
              rw [decide_eq_false h]; simpa using this⟩
          obtain ⟨p, hp, hp2⟩ := HSTP.out
          have HP := hideIt hp
          clear hcells hyi hbx hbl hg hp HSTP
          cases hgv : g with
          | false =>
            have hp0 : p = false := by rw [HP.out, hgv]; rfl
            have HNX : Hid (Value.bool false = .bool (false && parF ps (i + 1))) := hideIt (HNX0.out p HP.out false (by rw [hp0]; rfl))
            clear hp2 hp0
            go_wp2
            go_loopw [3, 5] (fun b k wr' => ∃ j : Nat, j ≤ i ∧ k = .int .i64 j ∧ b = .bool false ∧ CBox wr' w.heap.size 43 ⟨tr, .slice (some ⟨b0, o, none⟩) n cc, ps, au, tm, tx⟩ ∧ Below w.heap.size w wr') (fun _ k _ => i - (intOf k).toNat)
            case atStart => exact ⟨0, by omega, rfl, rfl, HBX.out, HBL.out⟩
            case round =>
              rename_i wr'
              obtain ⟨j, hj, rfl, rfl, hcx, hcl⟩ := hrel
              have HCX := hideIt hcx
              have HCL := hideIt hcl
              have c11 := hcx.c1
              simp only at c11
              have c01 := (HCV.out.below hcl).2 i y HYI.out
              clear hcx hcl
              by_cases hjl : j < i
              · have d1 : decide ((j : Int) < (i : Int)) = true := decide_eq_true (by omega)
                have d2 : (j : Int) < (i : Int) := by omega
                go_wp2
                go_quiet (fail)
                go_wp2
                go_roundw
                case rel => exact ⟨j + 1, by omega, by go_num, rfl, cbx_drew HCX.out _, below2 HCL.out (below_drewN _ _)⟩
                case measure => simp [intOf]; omega
              · have d1 : decide ((j : Int) < (i : Int)) = false := decide_eq_false (by omega)
                obtain rfl : j = i := by omega
                go_wp2
                go_roundw
                case rel => exact ⟨j + 1, by omega, by go_num, HNX.out, HCX.out, HCL.out⟩
                case measure => simp [intOf]; omega
          | true =>
            have hp1 := hp2 hgv
            cases p with
            | false =>
              have HNX : Hid (Value.bool false = .bool (false && parF ps (i + 1))) := hideIt (HNX0.out false HP.out false rfl)
              clear hp2
              go_wp2
              go_loopw [3, 5] (fun b k wr' => ∃ j : Nat, j ≤ i ∧ k = .int .i64 j ∧ b = .bool false ∧ CBox wr' w.heap.size 43 ⟨tr, .slice (some ⟨b0, o, none⟩) n cc, ps, au, tm, tx⟩ ∧ Below w.heap.size w wr') (fun _ k _ => i - (intOf k).toNat)
              case atStart => exact ⟨0, by omega, rfl, rfl, HBX.out, HBL.out⟩
              case round =>
                rename_i wr'
                obtain ⟨j, hj, rfl, rfl, hcx, hcl⟩ := hrel
                have HCX := hideIt hcx
                have HCL := hideIt hcl
                have c11 := hcx.c1
                simp only at c11
                have c01 := (HCV.out.below hcl).2 i y HYI.out
                clear hcx hcl
                by_cases hjl : j < i
                · have d1 : decide ((j : Int) < (i : Int)) = true := decide_eq_true (by omega)
                  have d2 : (j : Int) < (i : Int) := by omega
                  go_wp2
                  go_quiet (fail)
                  go_wp2
                  go_roundw
                  case rel => exact ⟨j + 1, by omega, by go_num, rfl, cbx_drew HCX.out _, below2 HCL.out (below_drewN _ _)⟩
                  case measure => simp [intOf]; omega
                · have d1 : decide ((j : Int) < (i : Int)) = false := decide_eq_false (by omega)
                  obtain rfl : j = i := by omega
                  go_wp2
                  go_roundw
                  case rel => exact ⟨j + 1, by omega, by go_num, HNX.out, HCX.out, HCL.out⟩
                  case measure => simp [intOf]; omega
            | true =>
              have HNX : Hid (Value.bool (!memB y (ps.take i)) = .bool (false && parF ps (i + 1))) := hideIt (HNX0.out true HP.out _ (by simp))
              clear hp2
              go_wp2
              go_loopw [3, 5] (fun b k wr' => ∃ j : Nat, j ≤ i ∧ k = .int .i64 j ∧ b = .bool (!memB y (ps.take j)) ∧ CBox wr' w.heap.size 43 ⟨tr, .slice (some ⟨b0, o, none⟩) n cc, ps, au, tm, tx⟩ ∧ Below w.heap.size w wr') (fun _ k _ => i - (intOf k).toNat)
              case atStart => exact ⟨0, by omega, rfl, by simp [memB], HBX.out, HBL.out⟩
              case round =>
                rename_i wr'
                obtain ⟨j, hj, rfl, rfl, hcx, hcl⟩ := hrel
                have HCX := hideIt hcx
                have HCL := hideIt hcl
                have c11 := hcx.c1
                simp only at c11
                have c01 := (HCV.out.below hcl).2 i y HYI.out
                clear hcx hcl
                by_cases hjl : j < i
                · have d1 : decide ((j : Int) < (i : Int)) = true := decide_eq_true (by omega)
                  have d2 : (j : Int) < (i : Int) := by omega
                  have d3 : (j : Int) < (n : Int) := by omega
                  obtain ⟨z, hzj⟩ : ∃ z, ps[j]? = some z := ⟨ps[j]'(by rw [HN.out]; omega), by simp⟩
                  have cz := (HCV.out.below HCL.out).2 j z hzj
                  have HMT := hideIt (memB_take y z ps j hzj)
                  obtain ⟨m, hm⟩ : ∃ m, memB y (ps.take j) = m := ⟨_, rfl⟩
                  rw [hm] at HMT
                  rw [hm]
                  clear hzj hm
                  cases m with
                  | true =>
                    simp only [Bool.not_true]
                    go_wp2
                    go_quiet (fail)
                    go_wp2
                    go_roundw
                    case rel => exact ⟨j + 1, by omega, by go_num, by rw [HMT.out]; rfl, cbx_drew HCX.out _, below2 HCL.out (below_drewN _ _)⟩
                    case measure => simp [intOf]; omega
                  | false =>
                    simp only [Bool.not_false]
                    by_cases hzy : z = y
                    · have z1 : (z.toList == y.toList) = true := by rw [bytes_eq, decide_eq_true hzy]
                      have z2 : (z.toList != y.toList) = false := by rw [bne, z1]; rfl
                      have z3 : (y.toList == z.toList) = true := by rw [bytes_eq, decide_eq_true hzy.symm]
                      have HMZ := hideIt z3
                      clear z3 hzy
                      go_wp2
                      go_quiet (fail)
                      go_wp2
                      go_roundw
                      case rel => exact ⟨j + 1, by omega, by go_num, by rw [HMT.out, HMZ.out]; rfl, cbx_drew HCX.out _, below2 HCL.out (below_drewN _ _)⟩
                      case measure => simp [intOf]; omega
                    · have z1 : (z.toList == y.toList) = false := by rw [bytes_eq, decide_eq_false hzy]
                      have z2 : (z.toList != y.toList) = true := by rw [bne, z1]; rfl
                      have z3 : (y.toList == z.toList) = false := by rw [bytes_eq, decide_eq_false (fun e => hzy e.symm)]
                      have HMZ := hideIt z3
                      clear z3 hzy
                      go_wp2
                      go_quiet (fail)
                      go_wp2
                      go_roundw
                      case rel => exact ⟨j + 1, by omega, by go_num, by rw [HMT.out, HMZ.out]; rfl, cbx_drew HCX.out _, below2 HCL.out (below_drewN _ _)⟩
                      case measure => simp [intOf]; omega
                · have d1 : decide ((j : Int) < (i : Int)) = false := decide_eq_false (by omega)
                  obtain rfl : j = i := by omega
                  go_wp2
                  go_roundw
                  case rel => exact ⟨j + 1, by omega, by go_num, HNX.out, HCX.out, HCL.out⟩
                  case measure => simp [intOf]; omega
        · have i1 : decide ((i : Int) < (n : Int)) = false := decide_eq_false (by omega)
          obtain rfl : i = n := by omega
          have HF : Hid (comOk ⟨tr, .slice a i cc, ps, au, tm, tx⟩ = (false && parF ps i)) := hideIt (by rw [HO.out]; simp)
          obtain ⟨g, hg⟩ : ∃ g, (false && parF ps i) = g := ⟨_, rfl⟩
          rw [hg] at HF
          rw [hg]
          clear hbx hbl hg
          cases g with
          | false =>
            rw [HF.out, if_neg (by decide)] at HE
            go_wp2
            go_ret
            exact ⟨by rw [HE.out] <;> rfl, HBL.out⟩
          | true =>
            rw [HF.out, if_pos rfl] at HE
            go_wp2
            go_ret
            exact ⟨by rw [HE.out] <;> rfl, HBL.out⟩
end Ob
end Go.Proofs.YtmjffngpaoaflaaGreatDoor
