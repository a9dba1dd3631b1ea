/- Apply, walked: the text that a delta makes of a base is what the document says. -/
import Derived.Test.YtdbbgpcjclmelaaGreatDoorDeDmf
namespace Go.Proofs.YtdbbgpcjclmelaaGreatDoor.De
open Cb
open Go.RowKit Go.Shelf
attribute [local go_sem] Oper.semAt_some
namespace Dl
/-- All pieces are good. -/
def okA (xs : List Pc) : Prop := ∀ x ∈ xs, x.1.2 = 0
def catA (xs : List Pc) : List UInt8 := (xs.map (fun x => x.1.1)).flatten
theorem fin_ok : ∀ {xs : List Pc}, okA xs → fin xs = (0, catA xs)
  | [], _ => rfl
  | x :: t, h => by
    have h1 : x.1.2 = 0 := h x (by simp)
    have h2 := fin_ok (xs := t) (fun y hy => h y (by simp [hy]))
    rw [fin, h1, h2]
    simp [catA]
theorem fin_bad : ∀ {pre rest : List Pc} {x : Pc}, okA pre → x.1.2 ≠ 0 → fin (pre ++ x :: rest) = (x.1.2, [])
  | [], rest, x, _, h => by rw [List.nil_append, fin, if_pos h]
  | y :: t, rest, x, hp, h => by
    have h1 : y.1.2 = 0 := hp y (by simp)
    have h2 := fin_bad (pre := t) (rest := rest) (fun z hz => hp z (by simp [hz])) h
    rw [List.cons_append, fin, h1, h2]
    simp [h]
theorem szs_le (B d : List UInt8) (most : Int) (hm : most ≤ 1000000) : (szs B d most).1 ≤ 1000000 ∧ (szs B d most).2.1.length ≤ d.length := by
  have h1 := nm_len d
  have h2 := nm_len (nm d).2.1
  unfold szs
  repeat' split
  all_goals first | (simp only [List.length_nil]; omega) | (simp; done) | skip
  all_goals (simp only; omega)
theorem catA_snoc (xs : List Pc) (x : Pc) : catA (xs ++ [x]) = catA xs ++ x.1.1 := by simp [catA]
theorem catA_len : ∀ xs : List Pc, (catA xs).length ≤ xs.length * 1000000
  | [] => by simp [catA]
  | x :: t => by
    have := catA_len t
    have := x.2.1
    simp only [catA, List.map_cons, List.flatten_cons, List.length_append, List.length_cons] at *
    omega
end Dl
theorem results_cc {fn : Func} {p u : Tmp} {x y : Value} {ap au : Addr} (h : fn.results = #[.cell p 9, .cell u 44]) {tmps : Array Value} {w : World} (hp : tmps.getD p undef = .pointer (some ap)) (hu : tmps.getD u undef = .pointer (some au)) (hx : w.cell? ap = some x) (hy : w.cell? au = some y) :
    (results fn tmps).run Tryz.prog w = .ok (.tuple #[x, y]) w := by
  rw [Array.getD_eq_getD_getElem?] at hp hu
  simp [results, h, hp, hu, hx, hy, go_sem]
/-- What is cells is as it was. -/
def KC (A B : World) : Prop := ∀ (g : Nat) (cs : Array Value) (t : TypeId) (fr : Nat × Nat), A.heap[g]? = some (Obj.cells cs t fr) → B.heap[g]? = some (Obj.cells cs t fr)
theorem kc_grown {A B : World} {row : Option Nat} (hg : A.grownBy B row) (hr : ∀ r, row = some r → ∃ o : Obj, A.heap[r]? = some o ∧ o.isCells = false) : KC A B := by
  intro g cs t fr h
  rw [hg.block g (Array.getElem?_eq_some_iff.1 h).1 (fun e => ?_)]
  · exact h
  · obtain ⟨o, ho, hc⟩ := hr g e.symm
    rw [h] at ho
    cases ho
    cases hc
theorem kc_below {A B : World} (h : Below A.heap.size A B) : KC A B := fun g _ _ _ hg => by rw [h.block g (Array.getElem?_eq_some_iff.1 hg).1]; exact hg
theorem boxed_kc {A A' : World} {B : Nat} {t : TypeId} {v : Value} (h : Boxed A B t v) (k : KC A A') : Boxed A' B t v := k _ _ _ _ h
theorem bld_kc {B b : Nat} {L : List UInt8} {A A' : World} (h : BldA B b L A) (k : KC A A') : BldA B b L A' := by
  obtain ⟨h1, v, h2, h3, h4⟩ := h
  refine ⟨h1, v, k _ _ _ _ h2, ⟨h3.1, ?_⟩, h4⟩
  rcases h3.2 with h | ⟨g, cap, cur, e, hb, hh, r⟩
  · exact Or.inl h
  · exact Or.inr ⟨g, cap, cur, e, hb, k _ _ _ _ hh, r⟩
theorem boxed_kept9 {A A' : World} {b B : Nat} {t : TypeId} {v : Value} (h : Boxed A B t v) (k : Lib.OthersKept 5 (some b) A A') (hb : B ≠ b) (ht : t ≠ 5) : Boxed A' B t v :=
  k B _ h (fun e => hb (by simpa using e)) (fun c fz e => by cases e; exact ht rfl)
set_option maxRecDepth 100000 in
set_option maxHeartbeats 4000000 in
theorem applyP_s (b d : ByteArray) (most : Int) (w : World) (hb : b.size ≤ 1000000) (hd : d.size ≤ 1000000) (hm : most ≤ 1000000) :
    Calls Tryz.prog 76 #[.string b, .string d, .int .i64 most] w fun e w' => e = .returned (.tuple #[.string (bs (Dl.appP b.data.toList d.data.toList most).2), .int .i64 ((Dl.appP b.data.toList d.data.toList most).1 : Int)]) ∧ Below w.heap.size w w' := by
  obtain ⟨B, hB⟩ : ∃ L, b.data.toList = L := ⟨_, rfl⟩
  obtain ⟨L, hL⟩ : ∃ L, d.data.toList = L := ⟨_, rfl⟩
  have HS := hideIt (fun w => readSizes_any b d most w hb hd hm)
  have hsz := Dl.szs_le B L most hm
  have hLl : L.length ≤ 1000000 := by rw [← hL, str_len]; exact hd
  rw [hB, hL] at HS ⊢
  have hap : Dl.appP B L most = if (Dl.szs B L most).2.2 ≠ 0 then ((Dl.szs B L most).2.2, []) else Dl.stpP B (Dl.szs B L most).1 ((Dl.szs B L most).1 + 1) [] (Dl.szs B L most).2.1 := rfl
  rw [hap]
  clear hap
  obtain ⟨⟨size, R, z⟩, hT⟩ : ∃ T, Dl.szs B L most = T := ⟨_, rfl⟩
  rw [hT] at HS hsz ⊢
  simp only at HS hsz ⊢
  simp only [szV] at HS
  refine (callsIn_wide (n := 4)).1 ?_
  obtain ⟨RR, hRR⟩ : ∃ X, bs R = X := ⟨_, rfl⟩
  rw [hRR] at HS
  by_cases h0 : z = 0
  · subst h0
    have hRd : RR.data.toList = R := by rw [← hRR, bs_list]
    have hRs : RR.size ≤ 1000000 := by rw [← str_len, hRd]; omega
    obtain ⟨xs, hxs⟩ : ∃ xs, xs = Dl.pcs B (size + 1) size R := ⟨_, rfl⟩
    have hxl : xs.length ≤ 1000001 := by rw [hxs]; have := Dl.pcs_len B (size + 1) size R; omega
    have hst := Dl.stp_pcs B size hsz.1 (size + 1) [] R (by simp) (by simp)
    simp only [List.length_nil, Nat.sub_zero, List.nil_append] at hst
    rw [← hxs] at hst
    rw [if_neg (by simp), hst]
    obtain ⟨ov, hov⟩ : ∃ ov, (if (Dl.fin xs).1 ≠ 0 then ((Dl.fin xs).1, []) else (0, (Dl.fin xs).2)) = ov := ⟨_, rfl⟩
    rw [hov]
    have HOV := hideIt hov
    have HZ := hideIt hsz
    clear hT hsz hst hLl hL hov
    refine callsIn_of_wp_marks Tryz.func76 rfl trivial ?_ rfl
    simp only [Tryz.ntmps76, List.size_toArray, List.length_cons, List.length_nil, Nat.reduceAdd, Nat.reduceSub, Array.replicate_succ, Array.replicate_zero, List.push_toArray, List.append_toArray, List.nil_append, List.cons_append]
    gi_wp2_with (first | (refine ⟨trivial, ?_⟩; gi_at_call 96; refine (callsIn_wide.2 (HS.out _)).mono ?_; rintro e w2 ⟨rfl, q, hw2⟩; obtain rfl := hw2.symm) | (refine ⟨trivial, ?_⟩; gi_at_call 97; refine (pieces_in _ _ _ _ _).mono ?_; rintro e w3 ⟨rfl, rfl⟩))
    obtain ⟨W0, hW0⟩ : ∃ W0, ((w.alloc (.cells #[.string ⟨#[]⟩] 9)).alloc (.cells #[.int .i64 0] 44)).drewN q = W0 := ⟨_, rfl⟩
    have b0 : Boxed W0 w.heap.size 9 (.string ⟨#[]⟩) := by rw [← hW0]; exact (Boxed.new w 9 (.string ⟨#[]⟩)).alloc _
    have b1 : Boxed W0 (w.heap.size + 1) 44 (.int .i64 0) := by
      rw [← hW0]; have := Boxed.new (w.alloc (.cells #[.string ⟨#[]⟩] 9)) 44 (.int .i64 0); simp only [World.size_alloc] at this; exact this
    have hB0 : Below w.heap.size w W0 := by rw [← hW0]; exact (((Below.refl _ w).alloc (Nat.le_refl _) _).alloc (by simp) _).trans ⟨rfl, rfl, rfl, Nat.le_refl _, fun _ _ => rfl⟩
    have hS0 : W0.heap.size = w.heap.size + 1 + 1 := by rw [← hW0]; show ((w.alloc _).alloc _).heap.size = _; simp
    rw [hW0]
    clear hW0
    obtain ⟨W1, hW1⟩ : ∃ W1, ((W0.alloc (.cells #[.string b] 9)).alloc (.cells #[.string RR] 9)).alloc (.cells #[.int .i64 (size : Int)] 3) = W1 := ⟨_, rfl⟩
    have c0 : Boxed W1 w.heap.size 9 (.string ⟨#[]⟩) := by rw [← hW1]; exact ((b0.alloc _).alloc _).alloc _
    have c1 : Boxed W1 (w.heap.size + 1) 44 (.int .i64 0) := by rw [← hW1]; exact ((b1.alloc _).alloc _).alloc _
    have c2 : Boxed W1 (w.heap.size + 1 + 1) 9 (.string b) := by rw [← hW1, ← hS0]; exact ((Boxed.new W0 9 (.string b)).alloc _).alloc _
    have c3 : Boxed W1 (w.heap.size + 1 + 1 + 1) 9 (.string RR) := by
      rw [← hW1, ← hS0]; have := (Boxed.new (W0.alloc (.cells #[.string b] 9)) 9 (.string RR)).alloc (.cells #[.int .i64 (size : Int)] 3); simp only [World.size_alloc] at this; exact this
    have c4 : Boxed W1 (w.heap.size + 1 + 1 + 1 + 1) 3 (.int .i64 (size : Int)) := by
      rw [← hW1, ← hS0]; have := Boxed.new ((W0.alloc (.cells #[.string b] 9)).alloc (.cells #[.string RR] 9)) 3 (.int .i64 (size : Int)); simp only [World.size_alloc] at this; exact this
    have hB1 : Below w.heap.size w W1 := by rw [← hW1]; exact ((hB0.alloc hB0.size _).alloc (by have := hB0.size; simp; omega) _).alloc (by have := hB0.size; simp; omega) _
    have hS1 : W1.heap.size = w.heap.size + 1 + 1 + 1 + 1 + 1 := by rw [← hW1]; simp [hS0]
    rw [hW1]
    clear hW1 b0 b1 hB0 hS0
    have hxs2 : xs = Dl.pcs b.data.toList (size + 1) size RR.data.toList := by rw [hB, hRd]; exact hxs
    refine wpIn_rangeFunc_ownG rfl (by omega) (gf := 123) (lb := #[.pointer (some ⟨w.heap.size + 1 + 1 + 1, 0, none⟩), .pointer (some ⟨w.heap.size + 1 + 1 + 1 + 1, 0, none⟩), .pointer (some ⟨w.heap.size + 1 + 1, 0, none⟩)]) rfl trivial (enters_of Tryz.func123 (by kernel_rfl) rfl)
      (pieces_stops 3 (by omega) (w.heap.size + 1 + 1) (w.heap.size + 1 + 1 + 1) (w.heap.size + 1 + 1 + 1 + 1) b RR size (by omega) (by omega) HZ.out.1 xs hxs2 W1 (by omega) (by omega) (by omega) c2.cell c3.cell c4.cell) KpC.t (KpC.b (by omega)) (Below.refl _ _) (fun _ => rfl)
      (fun pre W => (Dl.okA pre ∧ Boxed W w.heap.size 9 (.string ⟨#[]⟩) ∧ Boxed W (w.heap.size + 1) 44 (.int .i64 0)) ∧ Below w.heap.size w W)
      (fun c pre W => (c = .ret ∧ (∃ pre' x, pre = pre' ++ [x] ∧ Dl.okA pre' ∧ x.1.2 ≠ 0 ∧ Boxed W w.heap.size 9 (.string ⟨#[]⟩) ∧ Boxed W (w.heap.size + 1) 44 (.int .i64 (x.1.2 : Int)))) ∧ Below w.heap.size w W)
      (OwnFrom.and (fun s A B row hs hg hr => ⟨hs.1, boxed_kc hs.2.1 (kc_grown hg (fun r e => (hr r e).2)), boxed_kc hs.2.2 (kc_grown hg (fun r e => (hr r e).2))⟩) (ownFrom_below (Nat.le_refl _) (by omega)))
      (fun c => OwnFrom.and (fun s A B row hs hg hr => by
        obtain ⟨e, pre', x, h1, h2, h3, h4, h5⟩ := hs
        exact ⟨e, pre', x, h1, h2, h3, boxed_kc h4 (kc_grown hg (fun r e => (hr r e).2)), boxed_kc h5 (kc_grown hg (fun r e => (hr r e).2))⟩) (ownFrom_below (Nat.le_refl _) (by omega)))
      ⟨⟨fun x hx => by simp at hx, c0, c1⟩, hB1⟩
      (fun x => { tmps := #[.string b, .string d, .int .i64 most, undef, undef, undef, .pointer (some ⟨w.heap.size, 0, none⟩), .pointer (some ⟨w.heap.size + 1, 0, none⟩), .int .i64 (size : Int), .string RR, .int .i64 0, undef, .int .i64 (x.1.2 : Int), undef, undef, .tuple #[.int .i64 (size : Int), .string RR, .int .i64 0], .string b, .string d, .int .i64 most, .tuple #[.int .i64 (size : Int), .string RR, .int .i64 0], .int .i64 (size : Int), .string RR, .int .i64 0, .int .i64 0, .bool false, undef, .string b, .string RR, .int .i64 (size : Int), .func (.func 123) #[] #[.pointer (some ⟨w.heap.size + 1 + 1 + 1, 0, none⟩), .pointer (some ⟨w.heap.size + 1 + 1 + 1 + 1, 0, none⟩), .pointer (some ⟨w.heap.size + 1 + 1, 0, none⟩)], .string (bs x.1.1), .int .i64 (x.1.2 : Int), undef, undef, undef, undef, undef, undef, undef, undef, undef, undef, undef, undef, undef, undef], defers := [] }) ?assign ?body ?done ?stop
    case assign =>
      intro l x W K hK
      gi_wp2
      exact hK
    case body =>
      rintro l pre x W ⟨⟨hok, d0, d1⟩, hBl⟩ _
      have e0 := d0.cell
      have e1 := d1.cell
      have f0 := d0.frozen
      have f1 := d1.frozen
      by_cases hx0 : x.1.2 = 0
      · have x1 : (x.1.2 : Int) = 0 := by omega
        have HX : Hid (Dl.okA (pre ++ [x])) := hideIt (fun y hy => (List.mem_append.1 hy).elim (hok y) (fun h => by simp at h; rw [h]; exact hx0))
        clear hok hx0
        gi_wp2
        exact ⟨KeepsFrom.refl _ _, rfl, ⟨HX.out, d0, d1⟩, hBl⟩
      · have x1 : ¬ (x.1.2 : Int) = 0 := by omega
        have x2 : ((x.1.2 : Int) == 0) = false := beq_eq_false_iff_ne.2 x1
        gi_wp2
        refine ⟨((KeepsOthers.setCell _ _ _).trans (KeepsOthers.setCell _ _ _)).from _, ⟨rfl, pre, x, rfl, hok, hx0, ?_, ?_⟩, ?_⟩
        · exact (d0.set (.string ⟨#[]⟩)).kept (grownBy_setCell' _ (w.heap.size + 1) _) (by simp)
        · exact (d1.kept (grownBy_setCell' _ w.heap.size (.string ⟨#[]⟩)) (by simp)).set _
        · exact (hBl.setCell (p := ⟨w.heap.size, 0, none⟩) (Nat.le_refl _) _).setCell (p := ⟨w.heap.size + 1, 0, none⟩) (by simp) _
    case done =>
      rintro D ys W hD rfl ⟨⟨hok, d0, d1⟩, hBl⟩ hK
      have hans : ov = (0, Dl.catA ys) := by rw [← HOV.out, Dl.fin_ok hok]; simp
      have HA := hideIt hans
      clear hok hans
      have hWs := hBl.size
      have HG := hideIt (Tryz.Builder_Grow_fresh W.heap.size W.heap.size size (W.alloc (.cells #[.pointer none, .slice none 0 0] 139)) (Nat.le_refl _) (World.alloc_heap_new W _) (by simp) (by have := HZ.out.1; omega))
      gi_wp2_with (first | (refine ⟨trivial, ?_⟩; gi_at_call 98; refine (callsIn_wide.2 HG.out).mono ?_; rintro e w5 ⟨rfl, hb5, hl5⟩) | (refine ⟨trivial, ?_⟩; gi_at_call 97; refine (pieces_in _ _ _ _ _).mono ?_; rintro e w6 ⟨rfl, rfl⟩))
      obtain ⟨gB, hgB⟩ : ∃ g, W.heap.size = g := ⟨_, rfl⟩
      have hDg : D < gB := by rw [← hgB]; exact (Array.getElem?_eq_some_iff.1 hK).1
      have h5 : ∀ k, k < gB → w5.heap[k]? = W.heap[k]? := fun k hk => by rw [hl5.block k (by omega)]; exact Below.heap_alloc W _ k (by omega)
      have hs5 : gB < w5.heap.size := by have := hl5.size; simp at this; omega
      rw [hgB] at hb5 hWs ⊢
      have k0 : Boxed w5 w.heap.size 9 (.string ⟨#[]⟩) := (h5 _ (by have := d0.lt; omega)).trans d0
      have k1 : Boxed w5 (w.heap.size + 1) 44 (.int .i64 0) := (h5 _ (by have := d1.lt; omega)).trans d1
      have hK5 : w5.heap[D]? = some (.deferred (some [])) := (h5 _ hDg).trans hK
      have hBl5 : Below w.heap.size w w5 := (hBl.alloc (by omega) _).trans (hl5.mono (by omega))
      clear hl5 h5 HG
      obtain ⟨W2, hW2⟩ : ∃ W2, ((w5.alloc (.cells #[.string b] 9)).alloc (.cells #[.string RR] 9)).alloc (.cells #[.int .i64 (size : Int)] 3) = W2 := ⟨_, rfl⟩
      have hS2 : W2.heap.size = w5.heap.size + 1 + 1 + 1 := by rw [← hW2]; simp
      have hBW : Below w5.heap.size w5 W2 := by rw [← hW2]; exact (((Below.refl _ w5).alloc (Nat.le_refl _) _).alloc (by simp) _).alloc (by simp; omega) _
      have m0 := boxed_kc k0 (kc_below hBW)
      have m1 := boxed_kc k1 (kc_below hBW)
      have m2 : Boxed W2 w5.heap.size 9 (.string b) := by rw [← hW2]; exact ((Boxed.new w5 9 (.string b)).alloc _).alloc _
      have m3 : Boxed W2 (w5.heap.size + 1) 9 (.string RR) := by
        rw [← hW2]; have := (Boxed.new (w5.alloc (.cells #[.string b] 9)) 9 (.string RR)).alloc (.cells #[.int .i64 (size : Int)] 3); simp only [World.size_alloc] at this; exact this
      have m4 : Boxed W2 (w5.heap.size + 1 + 1) 3 (.int .i64 (size : Int)) := by
        rw [← hW2]; have := Boxed.new ((w5.alloc (.cells #[.string b] 9)).alloc (.cells #[.string RR] 9)) 3 (.int .i64 (size : Int)); simp only [World.size_alloc] at this; exact this
      have mb : BldA gB gB (Dl.catA []) W2 := bld_kc (L := []) hb5 (kc_below hBW)
      have mK : W2.heap[D]? = some (.deferred (some [])) := (hBW.block D (by omega)).trans hK5
      have hB2 : Below w.heap.size w W2 := hBl5.trans (hBW.mono hBl5.size)
      rw [hW2]
      clear hW2 k0 k1 hb5 hK5 hBl5 hK d0 d1 hBl hBW
      refine wpIn_rangeFunc_ownG rfl (by omega) (gf := 123) (lb := #[.pointer (some ⟨w5.heap.size + 1, 0, none⟩), .pointer (some ⟨w5.heap.size + 1 + 1, 0, none⟩), .pointer (some ⟨w5.heap.size, 0, none⟩)]) rfl trivial (enters_of Tryz.func123 (by kernel_rfl) rfl)
        (pieces_stops 3 (by omega) w5.heap.size (w5.heap.size + 1) (w5.heap.size + 1 + 1) b RR size (by omega) (by omega) HZ.out.1 ys hxs2 W2 (by omega) (by omega) (by omega) m2.cell m3.cell m4.cell) KpC.t (KpC.b (by omega)) (Below.refl _ _) (fun _ => rfl)
        (fun pre V => (((Boxed V w.heap.size 9 (.string ⟨#[]⟩) ∧ Boxed V (w.heap.size + 1) 44 (.int .i64 0)) ∧ Boxed V w5.heap.size 9 (.string b) ∧ BldA gB gB (Dl.catA pre) V) ∧ V.heap[D]? = some (.deferred (some []))) ∧ Below w.heap.size w V)
        (fun _ _ _ => False)
        (OwnFrom.and (fun s A B row hs hg hr => ⟨⟨⟨boxed_kc hs.1.1.1 (kc_grown hg (fun r e => (hr r e).2)), boxed_kc hs.1.1.2 (kc_grown hg (fun r e => (hr r e).2))⟩, boxed_kc hs.1.2.1 (kc_grown hg (fun r e => (hr r e).2)), bld_kc hs.1.2.2 (kc_grown hg (fun r e => (hr r e).2))⟩, (hg.block D (Array.getElem?_eq_some_iff.1 hs.2).1 (fun e => by have := (hr D e.symm).1; omega)).trans hs.2⟩) (ownFrom_below (Nat.le_refl _) (by have := hB2.size; omega)))
        (fun _ _ _ _ _ hs _ _ => hs)
        ⟨⟨⟨⟨m0, m1⟩, m2, mb⟩, mK⟩, hB2⟩
        (fun x => { tmps := #[.string b, .string d, .int .i64 most, undef, undef, undef, .pointer (some ⟨w.heap.size, 0, none⟩), .pointer (some ⟨w.heap.size + 1, 0, none⟩), .int .i64 (size : Int), .string RR, .int .i64 0, undef, undef, .pointer (some ⟨gB, 0, none⟩), .string (bs x.1.1), .tuple #[.int .i64 (size : Int), .string RR, .int .i64 0], .string b, .string d, .int .i64 most, .tuple #[.int .i64 (size : Int), .string RR, .int .i64 0], .int .i64 (size : Int), .string RR, .int .i64 0, .int .i64 0, .bool false, undef, .string b, .string RR, .int .i64 (size : Int), .func (.func 123) #[] #[.pointer (some ⟨w.heap.size + 1 + 1 + 1, 0, none⟩), .pointer (some ⟨w.heap.size + 1 + 1 + 1 + 1, 0, none⟩), .pointer (some ⟨w.heap.size + 1 + 1, 0, none⟩)], undef, undef, undef, undef, undef, .int .i64 (size : Int), .tuple #[], .string b, .string RR, .int .i64 (size : Int), .func (.func 123) #[] #[.pointer (some ⟨w5.heap.size + 1, 0, none⟩), .pointer (some ⟨w5.heap.size + 1 + 1, 0, none⟩), .pointer (some ⟨w5.heap.size, 0, none⟩)], .string (bs x.1.1), .int .i64 (x.1.2 : Int), undef, undef, undef], defers := [] }) ?assign2 ?body2 ?done2 ?stop2
      case assign2 =>
        intro l x V K hK
        gi_wp2
        exact hK
      case body2 =>
        rintro l pre x V ⟨⟨⟨⟨v0, v1⟩, v2, vb⟩, vK⟩, hBV⟩ hlt
        have hcl := Dl.catA_len pre
        have hpl : pre.length * 1000000 ≤ 1000001000000 := Nat.mul_le_mul_right 1000000 (show pre.length ≤ 1000001 by omega)
        have HW := hideIt (write9_any gB gB (Dl.catA pre) (bs x.1.1) V vb (by rw [bs_size]; have := x.2.1; omega) (by have := v2.lt; omega))
        rw [bs_list, ← Dl.catA_snoc] at HW
        have hvb : gB < V.heap.size := by have := v2.lt; omega
        clear hcl hpl
        gi_wp2_with (refine ⟨trivial, ?_⟩; gi_at_call 99; refine (CallsIn.inRound l (callsIn_wide.2 HW.out)).mono ?_; rintro e w7 ⟨rfl, hb7, hl7, ho7⟩)
        have hne : ∀ (k : Nat) (o : Obj), V.heap[k]? = some o → o.isCells = false → w7.heap[k]? = some o := fun k o hk hc => ho7 k o hk (fun e => by
          obtain ⟨_, v, hh, _⟩ := vb
          simp only [Option.some.injEq] at e
          subst e
          rw [hh] at hk
          cases hk
          cases hc) (fun c fz e => by subst e; cases hc)
        have n2 := boxed_kept9 v2 ho7 (by omega) (by decide)
        refine ⟨⟨hl7.size, fun k o _ hk hc => hne k o hk hc⟩, ?_, ⟨⟨⟨boxed_kept9 v0 ho7 (by omega) (by decide), boxed_kept9 v1 ho7 (by omega) (by decide)⟩, n2, hb7⟩, hne D _ vK rfl⟩, hBV.trans (hl7.mono (by omega))⟩
        exact n2.cell.trans v2.cell.symm
      case done2 =>
        rintro D2 zs V hD2 rfl ⟨⟨⟨⟨v0, v1⟩, v2, vb⟩, vK⟩, hBV⟩ hK2
        clear hxs hxs2
        have HSt := hideIt (Tryz.Builder_String_any_k gB gB (Dl.catA zs) V (Lib.IsBuilderF.of (.inr vb)) (by have := v2.lt; omega))
        have HB : Hid (∀ w8 : World, Lib.OthersKept 5 (some gB) V w8 → (Boxed w8 w.heap.size 9 (.string ⟨#[]⟩) ∧ Boxed w8 (w.heap.size + 1) 44 (.int .i64 0)) ∧ w8.heap[D]? = some (.deferred (some [])) ∧ w8.heap[D2]? = some (.deferred (some []))) := by
          refine hideIt (fun w8 ho => ?_)
          have hne : ∀ (k : Nat) (o : Obj), V.heap[k]? = some o → o.isCells = false → w8.heap[k]? = some o := fun k o hk hc => ho k o hk (fun e => by
            obtain ⟨_, v, hh, _⟩ := vb
            simp only [Option.some.injEq] at e
            subst e
            rw [hh] at hk
            cases hk
            cases hc) (fun c fz e => by subst e; cases hc)
          exact ⟨⟨boxed_kept9 v0 ho (by omega) (by decide), boxed_kept9 v1 ho (by omega) (by decide)⟩, hne D _ vK rfl, hne D2 _ hK2 rfl⟩
        gi_wp2_with (refine ⟨trivial, ?_⟩; gi_at_call 100; refine (callsIn_wide.2 HSt.out).mono ?_; rintro e w8 ⟨rfl, _, hl8, ho8⟩; obtain ⟨⟨n0, n1⟩, nK, nK2⟩ := HB.out w8 ho8; have e0 := n0.cell; have e1 := n1.cell; have f0 := n0.frozen; have f1 := n1.frozen)
        obtain ⟨S, hS⟩ : ∃ S : ByteArray, (⟨(Dl.catA zs).toArray⟩ : ByteArray) = S := ⟨_, rfl⟩
        rw [hS]
        obtain ⟨X, hX⟩ : ∃ X, (w8.setCell ⟨w.heap.size, 0, none⟩ (.string S)).setCell ⟨w.heap.size + 1, 0, none⟩ (.int .i64 0) = X := ⟨_, rfl⟩
        have x0 : Boxed X w.heap.size 9 (.string S) := by rw [← hX]; exact (n0.set (.string S)).kept (grownBy_setCell' _ (w.heap.size + 1) _) (by simp)
        have x1 : Boxed X (w.heap.size + 1) 44 (.int .i64 0) := by rw [← hX]; exact (n1.kept (grownBy_setCell' _ w.heap.size (.string S)) (by simp)).set _
        have ks : KeepsOthers w8 X := by rw [← hX]; exact (KeepsOthers.setCell _ _ _).trans (KeepsOthers.setCell _ _ _)
        have xK := ks.same D _ nK rfl
        have xK2 := ks.same D2 _ nK2 rfl
        have hBX : Below w.heap.size w X := by rw [← hX]; exact ((hBV.trans (hl8.mono (by omega))).setCell (p := ⟨w.heap.size, 0, none⟩) (Nat.le_refl _) _).setCell (p := ⟨w.heap.size + 1, 0, none⟩) (by simp) _
        rw [hX]
        have yK : (X.putObj D2 (.deferred none)).heap[D]? = some (.deferred (some [])) := by rw [World.putObj_heap_other (by omega)]; exact xK
        have kc1 : KC X (X.putObj D2 (.deferred none)) := kc_grown (grownBy_putObj' X D2 _) (fun r e => by cases e; exact ⟨_, xK2, rfl⟩)
        have kc2 : KC (X.putObj D2 (.deferred none)) ((X.putObj D2 (.deferred none)).putObj D (.deferred none)) := kc_grown (grownBy_putObj' _ D _) (fun r e => by cases e; exact ⟨_, yK, rfl⟩)
        refine ⟨by simp, .inl ⟨_, _, rfl, run_takeDeferred xK2, by simp, .inl ⟨_, _, rfl, run_takeDeferred yK, ?_⟩⟩⟩
        exact ⟨_, results_cc rfl rfl rfl (boxed_kc (boxed_kc x0 kc1) kc2).cell (boxed_kc (boxed_kc x1 kc1) kc2).cell, by rw [HA.out, ← hS]; rfl,
          (hBX.trans (belowK_b (w := w) (Nat.le_refl _) X D2 _ _ (by have := hB2.size; omega) xK2 rfl rfl)).trans (belowK_b (w := w) (Nat.le_refl _) _ D _ _ (by omega) yK rfl rfl)⟩
      case stop2 =>
        rintro D2 c pre V _ _ h _
        exact h.elim
    case stop =>
      rintro D c pre W hD hpre ⟨⟨rfl, pre', x, rfl, hok, hx0, d0, d1⟩, hBl⟩ hK
      obtain ⟨rest, hrest⟩ := hpre
      have hfin : Dl.fin xs = (x.1.2, []) := by rw [← hrest, List.append_assoc]; exact Dl.fin_bad hok hx0
      have hans : ov = (x.1.2, []) := by rw [← HOV.out, hfin]; simp only; rw [if_pos hx0]
      gi_wp2
      refine ⟨by simp, .inl ⟨_, _, rfl, run_takeDeferred hK, ?_⟩⟩
      have kc : KC W (W.putObj D (.deferred none)) := kc_grown (grownBy_putObj' W D _) (fun r e => by cases e; exact ⟨_, hK, rfl⟩)
      exact ⟨_, results_cc rfl rfl rfl (boxed_kc d0 kc).cell (boxed_kc d1 kc).cell, by rw [hans]; rfl, hBl.trans (belowK_b (w := w) (Nat.le_refl _) W D _ _ (by omega) hK rfl rfl)⟩
  · rw [if_pos h0]
    simp only
    have z1 : ¬ (z : Int) = 0 := by omega
    have z2 : ((z : Int) == 0) = false := beq_eq_false_iff_ne.2 z1
    refine callsIn_of_wp_marks Tryz.func76 rfl trivial ?_ rfl
    simp only [Tryz.ntmps76, List.size_toArray, List.length_cons, List.length_nil, Nat.reduceAdd, Nat.reduceSub, Array.replicate_succ, Array.replicate_zero, List.push_toArray, List.append_toArray, List.nil_append, List.cons_append]
    gi_wp2_with (refine ⟨trivial, ?_⟩; gi_at_call 96; refine (callsIn_wide.2 (HS.out _)).mono ?_; rintro e w2 ⟨rfl, q, hw2⟩; obtain rfl := hw2.symm)
    obtain ⟨W0, hW0⟩ : ∃ W0, ((w.alloc (.cells #[.string ⟨#[]⟩] 9)).alloc (.cells #[.int .i64 0] 44)).drewN q = W0 := ⟨_, rfl⟩
    have b0 : Boxed W0 w.heap.size 9 (.string ⟨#[]⟩) := by rw [← hW0]; exact (Boxed.new w 9 (.string ⟨#[]⟩)).alloc _
    have b1 : Boxed W0 (w.heap.size + 1) 44 (.int .i64 0) := by
      rw [← hW0]; have := Boxed.new (w.alloc (.cells #[.string ⟨#[]⟩] 9)) 44 (.int .i64 0); simp only [World.size_alloc] at this; exact this
    have hB0 : Below w.heap.size w W0 := by rw [← hW0]; exact (((Below.refl _ w).alloc (Nat.le_refl _) _).alloc (by simp) _).trans ⟨rfl, rfl, rfl, Nat.le_refl _, fun _ _ => rfl⟩
    rw [hW0]
    have b0' := (b0.set (.string ⟨#[]⟩)).kept (grownBy_setCell' _ (w.heap.size + 1) (.int .i64 (z : Int))) (by simp)
    have b1' := (b1.kept (grownBy_setCell' _ w.heap.size (.string ⟨#[]⟩)) (by simp)).set (.int .i64 (z : Int))
    refine ⟨.tuple #[.string ⟨#[]⟩, .int .i64 (z : Int)], results_cc rfl rfl rfl b0'.cell b1'.cell, rfl, ?_⟩
    exact (hB0.setCell (p := ⟨w.heap.size, 0, none⟩) (Nat.le_refl _) _).setCell (p := ⟨w.heap.size + 1, 0, none⟩) (by simp) _
theorem applyP_any (B d : List UInt8) (most : Int) (w : World) (hB : B.length ≤ 1000000) (hd : d.length ≤ 1000000) (hm : most ≤ 1000000) :
    Calls Tryz.prog 76 #[.string (bs B), .string (bs d), .int .i64 most] w fun e w' => e = .returned (.tuple #[.string (bs (Dl.appP B d most).2), .int .i64 ((Dl.appP B d most).1 : Int)]) ∧ Below w.heap.size w w' := by
  have := applyP_s (bs B) (bs d) most w (by rw [bs_size]; exact hB) (by rw [bs_size]; exact hd) hm
  rw [bs_list, bs_list] at this
  exact this
theorem stp_small (base : List UInt8) (size : Nat) : ∀ (f : Nat) (T L : List UInt8), (Dl.stp base size f T L).1 ≤ 6
  | 0, _, _ => Nat.le_refl _
  | f + 1, T, L => by
    have hz : ∀ L, (Dl.nm L).2.2 ≤ 6 := unnum_small
    rw [Dl.stp]
    repeat' split
    all_goals first | exact hz _ | exact stp_small base size f _ _ | exact Nat.zero_le _ | decide
where
  unL_small : ∀ (k i c : Nat) (l : List UInt8), (Cd.unL k i c l).2.2 ≤ 6
    | 0, _, _, _ => by simp [Cd.unL]
    | k + 1, _, _, [] => by simp [Cd.unL]
    | k + 1, i, c, b :: t => by
      rw [Cd.unL]
      split
      · simp
      · exact unL_small k _ _ t
  unnum_small (L : List UInt8) : (Dl.nm L).2.2 ≤ 6 := unL_small 9 0 0 L
theorem app_small (base d : List UInt8) (most : Int) : (Dl.app base d most).1 ≤ 6 := by
  have hz : ∀ L, (Dl.nm L).2.2 ≤ 6 := stp_small.unnum_small
  unfold Dl.app
  repeat' split
  all_goals first | exact hz _ | exact stp_small _ _ _ _ _ | decide
/-- What Apply tells of a delta that was made of this base, or of one of another length. -/
theorem apply_made (B' B S : List UInt8) (most : Int) (w : World) (hB' : B'.length ≤ 1000000) (hB : B.length ≤ 1000000) (hS : S.length ≤ 1000000) (hd : (Dl.make B S).length ≤ 1000000) (hm : most ≤ 1000000) (hh : B' = B ∨ B.length ≠ B'.length := by first | exact .inl rfl | exact .inr (by simp)) :
    Calls Tryz.prog 76 #[.string (bs B'), .string (bs (Dl.make B S)), .int .i64 most] w fun e w' => e = .returned (.tuple #[.string (bs (Dl.app B' (Dl.make B S) most).2), .int .i64 ((Dl.app B' (Dl.make B S) most).1 : Int)]) ∧ Below w.heap.size w w' := by
  have e1 : (Dl.nm (Dl.make B S)).1 = B.length ∧ (Dl.nm (Dl.nm (Dl.make B S)).2.1).1 = S.length := by
    unfold Dl.make
    rw [List.append_assoc, Dl.nm_num _ _ (by omega)]
    refine ⟨rfl, ?_⟩
    show (Dl.nm (Cd.numL S.length ++ _)).1 = S.length
    rw [Dl.nm_num _ _ (by omega)]
  have key : Dl.appP B' (Dl.make B S) most = Dl.app B' (Dl.make B S) most := by
    refine Dl.appP_app _ _ _ ?_
    rw [e1.1, e1.2]
    rcases hh with rfl | hh
    · by_cases h : most < (S.length : Int)
      · exact .inr (.inr h)
      · exact .inl (by rw [Dl.app_make _ _ _ (by omega) (by omega) (by omega)])
    · exact .inr (.inl hh)
  rw [← key]
  exact applyP_any B' (Dl.make B S) most w hB' hd hm
end Go.Proofs.YtdbbgpcjclmelaaGreatDoor.De
