/- Pressed bytes spread again, walked. -/
import Derived.Test.YtddbhhankmejmaaGreatDoorLdAgain
namespace Go.Proofs.YtddbhhankmejmaaGreatDoor.Ld
open Cb
open Go.RowKit
def lenAt (w : World) (g : Nat) : Nat := match w.cell? ⟨g, 0, none⟩ with | some (.slice _ n _) => n | _ => 0
theorem lenAt_of {N g : Nat} {T : List UInt8} {v : Value} {r : ByteArray} {w0 w : World} (h : SpMem N g T v r w0 w) : lenAt w g = T.length := by
  obtain ⟨a, c, hv⟩ := slice_of h.own
  rw [lenAt, spc0 h.blk, hv]
theorem run_make_room (n : Nat) (hn : n ≤ 1048576) (w : World) :
    (Instr.makeSlice 82 (.int .i64 0) (.int .i64 (n : Int))).run Tryz.prog w = .ok (.slice (some ⟨w.heap.size, 0, none⟩) 0 n) (w.alloc (.cells (rowA (List.replicate n 0)) 5)) := by
  obtain ⟨i, hi, hz, hs, hb⟩ := info_parts infoB
  have := run_make (P := Tryz.prog) w 82 5 i (.int .u8 0) Tryz.underlying82 hi hz .i64 .i64 0 (n : Int) (by omega) (by omega) (by rw [hb]; omega) (by omega)
  rw [this, hs, Int.toNat_natCast, Nat.mul_one, made_bytes]
  rfl
theorem SpMem.room {N g n : Nat} {p r : ByteArray} {v : Value} {w0 w : World} (hb : Below N w0 w) (hs : N ≤ w.heap.size) (hg : N ≤ g) (hn : n ≤ 1048576) (h : w.heap[g]? = some (.cells #[v, .string r] 131 (0, 0))) (_hp : p = r) :
    (w.alloc (.cells (rowA (List.replicate n 0)) 5)).heap[g]? = some (.cells #[v, .string r] 131 (0, 0)) ∧ SpMem N g [] (.slice (some ⟨w.heap.size, 0, none⟩) 0 n) r w0 ((w.alloc (.cells (rowA (List.replicate n 0)) 5)).setCell ⟨g, 0, none⟩ (.slice (some ⟨w.heap.size, 0, none⟩) 0 n)) := by
  have hgs : g < w.heap.size := (Array.getElem?_eq_some_iff.1 h).1
  have h1 : (w.alloc (.cells (rowA (List.replicate n 0)) 5)).heap[g]? = some (.cells #[v, .string r] 131 (0, 0)) := by rw [Below.heap_alloc _ _ _ hgs]; exact h
  refine ⟨h1, (hb.alloc hs _).setCell (p := ⟨g, 0, none⟩) hg _, by simp [World.setCell]; omega, hg, by rw [heap_setCell_same _ g 0 _ _ _ h1]; rfl, rfl, Or.inr ⟨w.heap.size, n, rowA (List.replicate n 0), rfl, hs, ?_, by simp, by unfold maxLen; omega, by simp [rowA, u8s], by simp [u8s]⟩⟩
  rw [heap_setCell_other _ _ _ _ (by simp; omega)]
  exact alloc_at rfl
set_option maxHeartbeats 1600000 in
set_option maxRecDepth 100000 in
theorem spread_ok (S R : List UInt8) (p : ByteArray) (most : Int) (w : World) (hp : p.data.toList = Cd.numL S.length ++ R) (hspr : Lz.Spr S 0 R) (hS : S.length ≤ 1048576) (hm : (S.length : Int) ≤ most) (hps : p.size ≤ 100000000) :
    Calls Tryz.prog 49 #[.string p, .int .i64 most] w fun e w' => e = .returned (.tuple #[.string (bs S), .int .i64 0]) ∧ Below w.heap.size w w' := by
  obtain ⟨n, hn⟩ : ∃ n, S.length = n := ⟨_, rfl⟩
  rw [hn] at hm hp hS
  obtain ⟨pu, pd⟩ := past_num hp (by omega)
  obtain ⟨r1, hr1⟩ : ∃ r1, p.extract (Cd.numL n).length p.size = r1 := ⟨_, rfl⟩
  rw [hr1] at pd
  obtain ⟨N, hN⟩ : ∃ N, w.heap.size = N := ⟨_, rfl⟩
  have hb0 : (w.alloc (.cells #[.slice none 0 0, .string p] 131)).heap[N]? = some (.cells #[.slice none 0 0, .string p] 131 (0, 0)) := alloc_at hN
  have HN := hideIt (number_ok N n _ 1048576 (.slice none 0 0) p _ hb0 pu (by omega) (by omega) hps)
  rw [hr1] at HN
  obtain ⟨W1, hW1⟩ : ∃ W, (w.alloc (.cells #[.slice none 0 0, .string p] 131)).setCell ⟨N, 1, none⟩ (.string r1) = W := ⟨_, rfl⟩
  rw [hW1] at HN
  have hB1 : W1.heap[N]? = some (.cells #[.slice none 0 0, .string r1] 131 (0, 0)) := by rw [← hW1, heap_setCell_same _ N 1 _ _ _ hb0]; rfl
  have hL1 : Below N w W1 := by rw [← hW1]; exact ((Below.refl N w).alloc (by omega) _).setCell (p := ⟨N, 1, none⟩) (Nat.le_refl _) _
  have hmk := run_make_room n hS W1
  obtain ⟨hB2, hM2⟩ := SpMem.room (n := n) hL1 (by have := hL1.size; omega) (Nat.le_refl N) hS hB1 rfl
  have c0 := spc0 hB2
  have f0 := spf 0 hB2
  have m1 : ¬ most < (n : Int) := by omega
  have nI : (n : Int) ≤ 1048576 := by omega
  have nI2 : IntKind.i64.wrap (n : Int) = (n : Int) := by rw [IntKind.wrap_i64]; omega
  have HM2 := hideIt hM2
  have HPD := hideIt (And.intro pd hspr)
  have HSZ := hideIt hn
  have HR1 : Hid (r1.size ≤ 100000000) := by
    refine hideIt ?_
    rw [← hr1, ByteArray.size_extract]; omega
  rw [hN]
  clear pu hp hm hM2 hB1 hB2 hL1 hW1 hb0 hr1 pd hspr hn
  go_enter Tryz.func49, Tryz.ntmps49
  go_wp2_with (first | (go_at_call 96; refine HN.out.mono ?_; rintro e wx ⟨rfl, hwx⟩; obtain rfl := hwx.symm))
  clear HN c0 f0 hmk
  go_loopw [9] (fun _ wr => ∃ (a : Nat) (v : Value) (r : ByteArray) (R : List UInt8), r.data.toList = R ∧ r.size ≤ 100000000 ∧ Lz.Spr S a R ∧ a ≤ n ∧ SpMem N N (S.take a) v r w wr) (fun _ wr => n - lenAt wr N)
  case atStart => exact ⟨0, _, r1, R, HPD.out.1, HR1.out, HPD.out.2, by omega, HM2.out⟩
  case round =>
    obtain ⟨a, v, r, R', hrd, hrs, hspr, han, hr⟩ := hrel
    clear HM2 HPD HR1
    have hal : (S.take a).length = a := by rw [List.length_take, HSZ.out]; omega
    have hla : lenAt wr N = a := by rw [lenAt_of hr, hal]
    obtain ⟨va, vc, hv⟩ := slice_of hr.own
    rw [hal] at hv
    have c0 := spc0 hr.blk
    have c1 := spc1 hr.blk
    rw [hv] at c0
    have HQ : Hid (∀ (v2 : Value) (r2 : ByteArray) (w2 : World), r2.data.toList = [] → SpMem N N S v2 r2 w w2 → ∃ va vc, w2.cell? ⟨N, 0, none⟩ = some (.slice va n vc) ∧ w2.cell? ⟨N, 1, none⟩ = some (.string ⟨#[]⟩) ∧ (convert 82 9 (.slice va n vc)).run Tryz.prog w2 = .ok (.string (bs S)) w2 ∧ Below N w w2) := by
      refine hideIt (fun v2 r2 w2 hre hm => ?_)
      obtain ⟨xa, xc, hx⟩ := slice_of hm.own
      rw [HSZ.out] at hx
      have e : r2 = ⟨#[]⟩ := by rw [← bs_data r2, hre]; rfl
      refine ⟨xa, xc, by rw [spc0 hm.blk, hx], by rw [spc1 hm.blk, e], ?_, hm.below⟩
      rw [← hx]; exact run_own hm.own
    have a1 : (a : Int) ≤ (n : Int) := by omega
    cases hspr with
    | done =>
      obtain ⟨xa, xc, d0, d1, hcv, hbl⟩ := HQ.out v r wr hrd (by rw [List.take_length] at hr; exact hr)
      have HB := hideIt hbl
      clear hr c0 c1 HQ hrd hal hla hbl hv
      rw [HSZ.out] at *
      go_wp2
      go_ret2
      exact ⟨rfl, HB.out⟩
    | lone a ha =>
      rw [HSZ.out] at ha
      obtain ⟨d, hd⟩ : ∃ d, n - a = d := ⟨_, rfl⟩
      have d1 : (n : Int) - (a : Int) = (d : Int) := by omega
      have d2 : (d : Int) ≤ 1048576 := by omega
      have hlt : (a : Int) < (n : Int) := by omega
      have hlt2 : decide ((a : Int) < (n : Int)) = true := decide_eq_true hlt
      have HA : Hid (Calls Tryz.prog 97 #[.pointer (some ⟨N, 0, none⟩), .int .i64 (d : Int)] wr fun e w' => e = .returned (.int .i64 0) ∧ ∃ va vc, w'.cell? ⟨N, 0, none⟩ = some (.slice va n vc) ∧ w'.cell? ⟨N, 1, none⟩ = some (.string ⟨#[]⟩) ∧ (convert 82 9 (.slice va n vc)).run Tryz.prog w' = .ok (.string (bs S)) w' ∧ Below N w w') := by
        refine hideIt ?_
        have := alone_any N N d d (S.take a) (S.drop a) [] v r w wr hr (by rw [hrd, HSZ.out, hd, List.append_nil]) (by rw [List.length_drop, HSZ.out, hd]) (Nat.le_refl _) (by omega) hrs (by rw [hal]; omega)
        rw [List.take_append_drop] at this
        refine this.mono ?_
        rintro e w' ⟨rfl, v2, r2, hr2, hm2⟩
        exact ⟨rfl, HQ.out _ _ _ hr2 hm2⟩
      clear hr HQ hrd hal hla hv hd
      go_wp2_with (first | (go_at_call 97; refine HA.out.mono ?_; rintro e w2 ⟨rfl, xa, xc, e0, e1, hcv, hbl⟩))
      go_ret2
      exact ⟨rfl, hbl⟩
    | rep a i b q R'' h1 h2 h3 h4 h5 h6 h7 h8 =>
      rw [HSZ.out] at h6
      obtain ⟨d, hd⟩ : ∃ d, n - a = d := ⟨_, rfl⟩
      obtain ⟨f, hf⟩ : ∃ f, n - i = f := ⟨_, rfl⟩
      have d1 : (n : Int) - (a : Int) = (d : Int) := by omega
      have d2 : (d : Int) ≤ 1048576 := by omega
      have f1 : (n : Int) - (i : Int) = (f : Int) := by omega
      have f2 : (f : Int) ≤ 1048576 := by omega
      have hlt : (a : Int) < (n : Int) := by omega
      have hlt2 : decide ((a : Int) < (n : Int)) = true := decide_eq_true hlt
      have hne1 : ¬ (i : Int) = (n : Int) := by omega
      have hne2 : decide ((i : Int) = (n : Int)) = false := decide_eq_false hne1
      have hne3 : ((i : Int) == (n : Int)) = false := beq_eq_false_iff_ne.2 hne1
      have HA : Hid (Calls Tryz.prog 97 #[.pointer (some ⟨N, 0, none⟩), .int .i64 (d : Int)] wr fun e w' => e = .returned (.int .i64 0) ∧ ∃ va vc r2, w'.cell? ⟨N, 0, none⟩ = some (.slice va i vc) ∧ Calls Tryz.prog 98 #[.pointer (some ⟨N, 0, none⟩), .int .i64 (f : Int)] w' fun e w'' => e = .returned (.int .i64 0) ∧ ∃ v3 r3, r3.data.toList = R'' ∧ r3.size ≤ r2 ∧ r2 ≤ 100000000 ∧ SpMem N N (S.take (i + q)) v3 r3 w w'') := by
        refine hideIt ?_
        have hlM : ((S.drop a).take (i - a)).length = i - a := by rw [List.length_take, List.length_drop, HSZ.out]; omega
        have := alone_any N N d (i - a) (S.take a) ((S.drop a).take (i - a)) (Cd.numL b ++ Cd.numL (q - 4) ++ R'') v r w wr hr (by rw [hrd]; simp only [List.append_assoc]) hlM (by omega) (by omega) hrs (by rw [hal]; omega)
        have e : S.take a ++ (S.drop a).take (i - a) = S.take i := by rw [← List.take_add, show a + (i - a) = i by omega]
        rw [e] at this
        refine this.mono ?_
        rintro e w' ⟨rfl, v2, r2, hr2, hm2⟩
        obtain ⟨xa, xc, hx⟩ := slice_of hm2.own
        have hil : (S.take i).length = i := by rw [List.length_take, HSZ.out]; omega
        rw [hil] at hx
        have hsz2 : r2.size ≤ 100000000 := by
          rw [← str_len, hr2]
          rw [← str_len, hrd] at hrs
          simp only [List.length_append] at hrs ⊢
          omega
        refine ⟨rfl, xa, xc, r2.size, by rw [spc0 hm2.blk, hx], ?_⟩
        have := again_any N N f i b (q - 4) S R'' v2 r2 w w' hm2 hr2 h2 h3 h4 (by omega) (by omega) (by rw [HSZ.out]; omega) (by rw [HSZ.out]; exact hS) (fun k hk => h7 k (by omega)) hsz2
        rw [show i + (q - 4 + 4) = i + q by omega] at this
        refine this.mono ?_
        rintro e w'' ⟨rfl, v3, r3, hr3, hm3⟩
        refine ⟨rfl, v3, r3, hr3, ?_, hsz2, hm3⟩
        rw [← str_len, ← str_len, hr3, hr2]
        simp only [List.length_append]
        omega
      have HLA := hideIt hla
      have H8 := hideIt h8
      have H6 := hideIt (And.intro h5 h6)
      have H1 := hideIt h1
      clear hr HQ hrd hal hla hv hd hf h7 h8 h6 h5 h2 h3 h4 h1
      go_wp2_with (first | (go_at_call 97; refine HA.out.mono ?_; rintro e w2 ⟨rfl, xa, xc, rz, e0, hcall⟩; have HCA := hideIt hcall; clear hcall) | (go_at_call 98; refine HCA.out.mono ?_; rintro e w3 ⟨rfl, v3, r3, hr3, hz3, hz4, hm3⟩; have HM3 := hideIt hm3; have HR3 := hideIt (And.intro hr3 (And.intro hz3 hz4)); clear hm3 hr3 hz3 hz4))
      go_roundw
      case rel => exact ⟨i + q, v3, r3, R'', HR3.out.1, Nat.le_trans HR3.out.2.1 HR3.out.2.2, H8.out, H6.out.2, HM3.out⟩
      case measure =>
        rw [HLA.out, lenAt_of HM3.out, List.length_take, HSZ.out]
        have := H6.out
        have := H1.out
        omega
end Go.Proofs.YtddbhhankmejmaaGreatDoor.Ld
