/- Chains: rows of texts and of numbers in memory; the law's blobs: walked. Chains: the law's blobs: walked. Chains: objects as items: plain, and the base of each: walked. Chains: objects as items: walked. Chains: objects as items: walked. Chains: the document's items: walked. ChainItems, but for the waking test (a hypothesis here): walked. Chains: what a blob names (nothing): walked. Chains: a row of numbers, cloned: walked. Chains: what was made of a base is made again: walked. Chains: objects made of one another: which items wait for which, in what order they are solved: plain. -/
import Derived.Test.YtdbbgpcjclmelaaGreatDoorCbOwn
import Derived.Test.YtdbbgpcjclmelaaGreatDoorOq
import Derived.Test.YtdbbgpcjclmelaaGreatDoorOr
import Derived.Deep.RegionHeld3
import Derived.BigQuiet
import Derived.Test.YtdbbgpcjclmelaaGreatDoorDeDmc
import Derived.Test.YtdbbgpcjclmelaaGreatDoorDeDld
import Derived.Laws.MakeOwn
import Derived.Deep.RegionWith
import Derived.Lib.SliceRun
import Derived.Test.YtdbbgpcjclmelaaGreatDoorDeDle
import Derived.Test.YtdbbgpcjclmelaaGreatDoorDeDlf
namespace Go.Proofs.YtdbbgpcjclmelaaGreatDoor.Ch
open Cb Go.RowKit Go.Shelf
theorem cellAt {w : World} {g i : Nat} {cs : Array Value} {t : TypeId} {fr : Nat × Nat} {v : Value} (h : w.heap[g]? = some (.cells cs t fr)) (hv : cs[i]? = some v) : w.cell? ⟨g, i, none⟩ = some v := by simp [World.cell?, h, hv]
theorem block_lt {w : World} {g : Nat} {o : Obj} (h : w.heap[g]? = some o) : g < w.heap.size := by
  rcases Nat.lt_or_ge g w.heap.size with h' | h'
  · exact h'
  · simp [Array.getElem?_eq_none h'] at h
theorem bytes_ext {a b : ByteArray} (h : a.data.toList = b.data.toList) : a = b := ByteArray.ext (Array.toList_inj.1 h)
theorem below_drewN (w : World) (q : Nat) : Below w.heap.size w (w.drewN q) := ⟨rfl, rfl, rfl, Nat.le_refl _, fun _ _ => rfl⟩
theorem tl_ne {a b : ByteArray} (h : ¬ a = b) : (a.toList == b.toList) = false ∧ ¬ a.toList = b.toList := by
  have : ¬ a.toList = b.toList := fun e => h (bytes_ext (by rwa [ByteArray.toList_eq, ByteArray.toList_eq] at e))
  exact ⟨beq_eq_false_iff_ne.2 this, this⟩
/-- Values that lie in memory one behind the other. -/
def VCells (w : World) (b o : Nat) (l : List Value) : Prop := b < w.heap.size ∧ ∀ i u, l[i]? = some u → w.cell? ⟨b, o + i, none⟩ = some u
/-- A row whose elements have k cells each. -/
def VRow (k : Nat) (w : World) (v : Value) (n : Nat) (l : List Value) : Prop := l.length = n * k ∧ ∃ a c, v = .slice a n c ∧ n ≤ c ∧ (c ≤ maxLen ∧ (a = none → c = 0)) ∧ (0 < n → ∃ b o, a = some ⟨b, o, none⟩ ∧ VCells w b o l)
theorem VCells.below {w w' : World} {b o : Nat} {l : List Value} (h : VCells w b o l) (hb : Below w.heap.size w w') : VCells w' b o l :=
  ⟨Nat.lt_of_lt_of_le h.1 hb.size, fun i u hu => by rw [hb.cell (p := ⟨b, o + i, none⟩) h.1]; exact h.2 i u hu⟩
theorem VRow.below {k n : Nat} {w w' : World} {v : Value} {l : List Value} (h : VRow k w v n l) (hb : Below w.heap.size w w') : VRow k w' v n l := by
  obtain ⟨h0, a, c, h1, h2, h3, h4⟩ := h
  refine ⟨h0, a, c, h1, h2, h3, fun hp => ?_⟩
  obtain ⟨b, o, e, hc⟩ := h4 hp
  exact ⟨b, o, e, hc.below hb⟩
theorem VRow.of_row {k n : Nat} {w : World} {B : Nat} {t : TypeId} {v : Value} {l : List Value} (h : w.ownsRow B t k v n l) : VRow k w v n l := by
  have hl := h.1
  rcases h.2 with ⟨e, h0⟩ | ⟨g, cap, cur, e, h1, hg, h2, h3, r⟩
  · exact ⟨hl, none, 0, by rw [e, h0], by omega, ⟨by unfold maxLen; omega, fun _ => rfl⟩, fun hp => by omega⟩
  · subst e
    refine ⟨hl, some ⟨g, 0, none⟩, cap, rfl, h2, ⟨h3, fun h => by cases h⟩, fun _ => ⟨g, 0, rfl, block_lt hg, fun j u hj => ?_⟩⟩
    rw [Nat.zero_add, h.cellAt j (by have := (List.getElem?_eq_some_iff.1 hj).1; omega), hj]
def strs (l : List ByteArray) : List Value := l.map Value.string
def nums (l : List Int) : List Value := l.map (Value.int .i64)
theorem strs_len (l : List ByteArray) : (strs l).length = l.length := by simp [strs]
theorem nums_len (l : List Int) : (nums l).length = l.length := by simp [nums]
theorem strs_at {l : List ByteArray} {i : Nat} {x : ByteArray} (h : l[i]? = some x) : (strs l)[i]? = some (.string x) := by simp [strs, h]
theorem nums_at {l : List Int} {i : Nat} {x : Int} (h : l[i]? = some x) : (nums l)[i]? = some (.int .i64 x) := by simp [nums, h]
theorem strs_snoc (l : List ByteArray) (x : ByteArray) : strs (l ++ [x]) = strs l ++ [.string x] := by simp [strs]
theorem nums_snoc (l : List Int) (x : Int) : nums (l ++ [x]) = nums l ++ [.int .i64 x] := by simp [nums]
def TRow (w : World) (v : Value) (l : List ByteArray) : Prop := VRow 1 w v l.length (strs l)
def NRow (w : World) (v : Value) (l : List Int) : Prop := VRow 1 w v l.length (nums l)
theorem infoS : (Tryz.prog.info? 9).map (fun i => (i.zero, i.size, i.bytes)) = some (some (.string ⟨#[]⟩), 1, 16) := by kernel_rfl
theorem infoZ : (Tryz.prog.info? 3).map (fun i => (i.zero, i.size, i.bytes)) = some (some (.int .i64 0), 1, 8) := by kernel_rfl
theorem new_empty (B k : Nat) (X : World) (t : TypeId) (h : B ≤ X.heap.size) : (X.alloc (.cells #[] t)).ownsRow B t k (.slice (some ⟨X.heap.size, 0, none⟩) 0 0) 0 [] :=
  ⟨by simp, .inr ⟨X.heap.size, 0, #[], rfl, h, alloc_at rfl, Nat.le_refl _, Nat.zero_le _, by simp, by simp⟩⟩
theorem row_ge {B n s : Nat} {t : TypeId} {v : Value} {xs : List Value} {w : World} (h : w.ownsRow B t s v n xs) : ∀ k, v.ownBlock = some k → B ≤ k := by
  intro k hk
  rcases h.2 with ⟨e, _⟩ | ⟨g, cap, cur, e, h1, _⟩
  · subst e; simp [Value.ownBlock] at hk
  · subst e; simp [Value.ownBlock] at hk; omega
theorem one_new {w : World} (x : Value) (t : TypeId) (j : Nat) (u : Value) (h : [x][j]? = some u) : (w.alloc (.cells #[x] t)).cell? ((⟨w.heap.size, 0, none⟩ : Addr).add j) = some u := by
  match j, h with
  | 0, h => exact cellAt (alloc_at rfl) (by simpa using h)
  | j + 1, h => simp at h
/-- The bytes of a blob that is not too long. -/
def blb (s : ByteArray) : ByteArray := bs (Ob.rawL 1 (s.data.toList.take 150))
def has (acc : List ByteArray) (x : ByteArray) : Bool := acc.any (fun y => decide (y = x))
def blobs (most : Nat) : List ByteArray → List ByteArray → List ByteArray
  | acc, [] => acc
  | acc, s :: r => if most ≤ acc.length then acc else if has acc (blb s) = true then blobs most acc r else blobs most (acc ++ [blb s]) r
theorem blobs_full {most : Nat} {acc : List ByteArray} (h : most ≤ acc.length) : ∀ r, blobs most acc r = acc
  | [] => rfl
  | s :: r => by rw [blobs, if_pos h]
theorem take_bs (L : List UInt8) (k : Nat) : (bs L).extract 0 k = bs (L.take k) := by
  apply bytes_ext
  rw [bs_list]
  simp [bs, ByteArray.data_extract]
end Go.Proofs.YtdbbgpcjclmelaaGreatDoor.Ch
namespace Go.Proofs.YtdbbgpcjclmelaaGreatDoor.Ch
open Cb Go.RowKit Go.Shelf
def BlTo (w : World) (l : List ByteArray) (e : Ending) (w' : World) : Prop := ∃ v, e = .returned v ∧ w'.ownsRow w.heap.size 9 1 v l.length (strs l) ∧ Below w.heap.size w w'
theorem has_next {acc : List ByteArray} {k : Nat} {y : ByteArray} (h : acc[k]? = some y) (x : ByteArray) : has (acc.take (k + 1)) x = (has (acc.take k) x || decide (y = x)) := by
  obtain ⟨hk, rfl⟩ := List.getElem?_eq_some_iff.1 h
  rw [has, List.take_succ_eq_append_getElem hk, List.any_append]
  simp [has]
theorem blobs_step {most : Nat} {acc r : List ByteArray} {s : ByteArray} (h : acc.length < most) : blobs most acc (s :: r) = if has acc (blb s) = true then blobs most acc r else blobs most (acc ++ [blb s]) r := by
  rw [blobs, if_neg (by omega)]
set_option maxHeartbeats 1600000 in
set_option maxRecDepth 100000 in
theorem blobs_any (v : Value) (l : List ByteArray) (most : Nat) (w : World) (h : TRow w v l) (hm : most ≤ 1000) :
    Calls Tryz.prog 6 #[v, .int .i64 (most : Int)] w fun e w' => BlTo w (blobs most [] l) e w' := by
  obtain ⟨i0, hi0, hz0, hz1, hz2⟩ := info_parts infoS
  obtain ⟨R, hR⟩ : ∃ R, blobs most [] l = R := ⟨_, rfl⟩
  rw [hR]
  have HT : Hid (∀ e w', BlTo w R e w' ↔ ∃ v, e = .returned v ∧ w'.ownsRow w.heap.size 9 1 v R.length (strs R) ∧ Below w.heap.size w w') := hideIt (fun _ _ => Iff.rfl)
  have HR0 := hideIt hR
  obtain ⟨_, av, cv, rfl, hle, ⟨hcm, hnn⟩, hrow⟩ := h
  have HR := hideIt hrow
  obtain ⟨n, hn⟩ : ∃ n, l.length = n := ⟨_, rfl⟩
  have HN := hideIt hn
  rw [hn] at hle HR ⊢
  have HE : Hid ((w.alloc (.cells #[] 9)).ownsRow w.heap.size 9 1 (.slice (some ⟨w.heap.size, 0, none⟩) 0 0) 0 (strs [])) := hideIt (new_empty _ 1 w 9 (Nat.le_refl _))
  have HEB : Hid (Below w.heap.size w (w.alloc (.cells #[] 9))) := hideIt ((Below.refl _ w).alloc (Nat.le_refl _) _)
  have HRW : Hid (∀ (s : ByteArray) w, s.size ≤ 1000 → Calls Tryz.prog 15 #[.int .i64 1, .string s] w fun e w' => e = .returned (.string (bs (Ob.rawL 1 s.data.toList))) ∧ Below w.heap.size w w') := hideIt (fun s w hs => Ob.refraw_any 1 (by omega) s w (by omega))
  have mI : (most : Int) ≤ 1000 := by omega
  unfold maxLen at hcm
  have nI : (n : Int) ≤ 9223372036854775807 := by omega
  clear hn hrow hcm hle hR hnn
  go_enter Tryz.func6, Tryz.ntmps6
  go_wp2
  go_loopw [5, 6] (fun t5 t6 wr => ∃ (i : Nat) (acc : List ByteArray), i ≤ n ∧ t6 = .int .i64 (i : Int) ∧ acc.length ≤ most ∧ wr.ownsRow w.heap.size 9 1 t5 acc.length (strs acc) ∧ blobs most acc (l.drop i) = R ∧ Below w.heap.size w wr) (fun _ t6 _ => n - (intOf t6).toNat)
  case atStart => exact ⟨0, [], by omega, rfl, by simp, HE.out, by simpa using HR0.out, HEB.out⟩
  case round =>
    obtain ⟨i, acc, hi, rfl, hal, ho, hbl, hb⟩ := hrel
    have HB := hideIt hb
    have hws : w.heap.size ≤ wr.heap.size := hb.size
    obtain ⟨q, hq⟩ : ∃ q, acc.length = q := ⟨_, rfl⟩
    have HQ := hideIt hq
    have HOA := hideIt ho
    obtain ⟨_, a5, c5, e5, hl5, hm5, hr5⟩ := VRow.of_row ho
    subst e5
    have HR5 := hideIt hr5
    rw [hq] at hal hl5 HOA HR5 ⊢
    by_cases hlt : i < n ∧ q < most
    · obtain ⟨h1, h2⟩ := hlt
      have i1 : (i : Int) < (n : Int) := by omega
      have i9 : (i : Int) + 1 ≤ 9223372036854775807 := by omega
      have i2 : decide ((i : Int) < (n : Int)) = true := decide_eq_true i1
      have j1 : (q : Int) < (most : Int) := by omega
      have j2 : decide ((q : Int) < (most : Int)) = true := decide_eq_true j1
      obtain ⟨b, o, rfl, hcells⟩ := HR.out (by omega)
      obtain ⟨x, hxi⟩ : ∃ x, l[i]? = some x := ⟨l[i]'(by rw [HN.out]; exact h1), by simp⟩
      have c0 := (hcells.below HB.out).2 i _ (strs_at hxi)
      have hdr : l.drop i = x :: l.drop (i + 1) := by
        obtain ⟨hi', rfl⟩ := List.getElem?_eq_some_iff.1 hxi
        exact List.drop_eq_getElem_cons hi'
      rw [hdr, blobs_step (by omega)] at hbl
      have hts := take_bs x.data.toList 150
      rw [bs_data] at hts
      obtain ⟨t, ht⟩ : ∃ t, bs (x.data.toList.take 150) = t := ⟨_, rfl⟩
      rw [ht] at hts
      have htl : t.data.toList = x.data.toList.take 150 := by rw [← ht, bs_list]
      have htz : t.size ≤ 150 := by rw [← ht, bs_size]; simp; omega
      have HR1 := hideIt (fun w => HRW.out t w (by omega))
      rw [htl, show bs (Ob.rawL 1 (x.data.toList.take 150)) = blb x from rfl] at HR1
      have hsm : (¬ 150 < x.size ∧ x = t) ∨ 150 < x.size := by
        by_cases h : 150 < x.size
        · exact .inr h
        · refine .inl ⟨h, ?_⟩
          rw [← ht, List.take_of_length_le (by rw [Array.length_toList]; exact Nat.le_of_not_lt h), bs_data]
      obtain ⟨r, hr⟩ : ∃ r, blb x = r := ⟨_, rfl⟩
      rw [hr] at hbl HR1
      have HBL := hideIt hbl
      have HCN := hideIt (fun (k : Nat) (y : ByteArray) (hy : acc[k]? = some y) => has_next hy r)
      have HCE : Hid (acc.take q = acc) := hideIt (by rw [← hq, List.take_length])
      clear hcells hxi hdr hbl ht htl hr ho hb hr5 hq
      rcases hsm with ⟨g, hxt⟩ | g
      · subst hxt
        have g1 : ¬ (150 : Int) < (x.size : Int) := by omega
        clear hts g htz
        go_wp2_with (first | (go_at_call 15; refine (HR1.out _).mono ?_; rintro e w1 ⟨rfl, hb1⟩; have B1 := hideIt hb1; clear hb1))
        go_loopw [9, 10] (fun t9 t10 wq => ∃ k : Nat, k ≤ q ∧ t10 = .int .i64 (k : Int) ∧ t9 = .bool (has (acc.take k) r) ∧ wq = w1) (fun _ t10 _ => q - (intOf t10).toNat)
        case atStart => exact ⟨0, by omega, rfl, rfl, rfl⟩
        case round =>
          obtain ⟨k, hk, rfl, rfl, rfl⟩ := hrel
          by_cases hlt2 : k < q
          · have k1 : (k : Int) < (q : Int) := by omega
            have k2 : decide ((k : Int) < (q : Int)) = true := decide_eq_true k1
            obtain ⟨y, hy⟩ : ∃ y, acc[k]? = some y := ⟨acc[k]'(by rw [HQ.out]; exact hlt2), by simp⟩
            obtain ⟨b5, o5, rfl, hc5⟩ := HR5.out (by omega)
            have d0 := (hc5.below B1.out).2 k _ (strs_at hy)
            have hcn := HCN.out k y hy
            have HC2 := hideIt hcn
            obtain ⟨f, hf⟩ : ∃ f, has (acc.take k) r = f := ⟨_, rfl⟩
            rw [hf] at HC2 ⊢
            clear hcn hf hy hc5
            cases f
            · by_cases he : y = r
              · have q1 : (y.toList == r.toList) = true := by rw [he]; simp
                have q2 : y.toList = r.toList := by rw [he]
                have HC3 : Hid (has (acc.take (k + 1)) r = true) := hideIt (by rw [HC2.out, decide_eq_true he]; rfl)
                clear he
                go_wp2
                go_roundw
                case rel => exact ⟨k + 1, by omega, by go_num, by rw [HC3.out], by first | rfl | trivial⟩
                case measure => simp [intOf]; omega
              · obtain ⟨q1, q2⟩ := tl_ne he
                have HC3 : Hid (has (acc.take (k + 1)) r = false) := hideIt (by rw [HC2.out, decide_eq_false he]; rfl)
                clear he
                go_wp2
                go_roundw
                case rel => exact ⟨k + 1, by omega, by go_num, by rw [HC3.out], by first | rfl | trivial⟩
                case measure => simp [intOf]; omega
            · have HC3 : Hid (has (acc.take (k + 1)) r = true) := hideIt (by rw [HC2.out]; rfl)
              go_wp2
              go_roundw
              case rel => exact ⟨k + 1, by omega, by go_num, by rw [HC3.out], by first | rfl | trivial⟩
              case measure => simp [intOf]; omega
          · have k2 : decide ((k : Int) < (q : Int)) = false := decide_eq_false (by omega)
            have hkq : k = q := by omega
            rw [hkq, HCE.out]
            have HO1 : Hid (wr.ownsRow w.heap.size 9 1 (.slice a5 q c5) q (strs acc)) := hideIt (by
              have := HOA.out
              refine ⟨this.1, ?_⟩
              rcases this.2 with h0 | ⟨gg, cap, cur, e, h1, hg, rr⟩
              · exact .inl h0
              · exact .inr ⟨gg, cap, cur, e, h1, (B1.out.block gg (block_lt hg)).trans hg, rr⟩)
            have HBB := hideIt (below2 HB.out B1.out)
            have hw2 : w.heap.size ≤ wr.heap.size := HBB.out.size
            cases hf : has acc r with
            | true =>
              have HB2 : Hid (blobs most acc (l.drop (i + 1)) = R) := hideIt (by rw [← HBL.out, if_pos hf])
              clear hf hkq
              go_wp2
              go_roundw
              case rel => exact ⟨i + 1, acc, by omega, by go_num, by rw [HQ.out]; omega, by rw [HQ.out]; exact HO1.out, HB2.out, HBB.out⟩
              case measure => simp [intOf]; omega
            | false =>
              have HB2 : Hid (blobs most (acc ++ [r]) (l.drop (i + 1)) = R) := hideIt (by rw [← HBL.out, if_neg (by rw [hf]; simp)])
              have HFI : Hid (∀ (v' : Value) (w' : World), w'.ownsRow w.heap.size 9 1 v' (q + 1) (strs acc ++ [.string r]) → w'.ownsRow w.heap.size 9 1 v' (acc ++ [r]).length (strs (acc ++ [r]))) := hideIt (fun v' w' h => by rw [strs_snoc, List.length_append, HQ.out]; exact h)
              have HGB : Hid (∀ w', (wr.alloc (.cells #[.string r] 9)).grownBy w' (Value.slice a5 q c5).ownBlock → Below w.heap.size w w') := hideIt (fun w' hg => (HBB.out.alloc hw2 _).grown hg (by simp; omega) (row_ge HO1.out))
              clear hf hkq
              go_wp2_with (first | (at_builtin; refine wpList_append_own _ rfl (.tmp 52) (.tmp 54) 22 rfl w.heap.size 9 i0 (.string ⟨#[]⟩) 1 16 Tryz.underlying22 hi0 hz0 hz1 hz2 rfl (by decide) _ q (strs acc) rfl (HO1.out.alloc _) ⟨wr.heap.size, 0, none⟩ 1 1 [.string r] rfl rfl (one_new _ _) (fun u hu => by simp at hu; subst hu; rfl) (by unfold maxLen; omega) (by omega) (by simp; omega) ?_; intro v2 w2 hown2 hg2 _; have G2 := hideIt (HFI.out _ _ hown2); have B2 := hideIt (HGB.out _ hg2); clear hown2 hg2))
              go_roundw
              case rel => exact ⟨i + 1, acc ++ [r], by omega, by go_num, by rw [List.length_append, HQ.out]; simp; omega, G2.out, HB2.out, B2.out⟩
              case measure => simp [intOf]; omega
      · have g1 : (150 : Int) < (x.size : Int) := by omega
        clear g htz
        go_wp2_with (first | (go_at_call 15; refine (HR1.out _).mono ?_; rintro e w1 ⟨rfl, hb1⟩; have B1 := hideIt hb1; clear hb1))
        go_loopw [9, 10] (fun t9 t10 wq => ∃ k : Nat, k ≤ q ∧ t10 = .int .i64 (k : Int) ∧ t9 = .bool (has (acc.take k) r) ∧ wq = w1) (fun _ t10 _ => q - (intOf t10).toNat)
        case atStart => exact ⟨0, by omega, rfl, rfl, rfl⟩
        case round =>
          obtain ⟨k, hk, rfl, rfl, rfl⟩ := hrel
          by_cases hlt2 : k < q
          · have k1 : (k : Int) < (q : Int) := by omega
            have k2 : decide ((k : Int) < (q : Int)) = true := decide_eq_true k1
            obtain ⟨y, hy⟩ : ∃ y, acc[k]? = some y := ⟨acc[k]'(by rw [HQ.out]; exact hlt2), by simp⟩
            obtain ⟨b5, o5, rfl, hc5⟩ := HR5.out (by omega)
            have d0 := (hc5.below B1.out).2 k _ (strs_at hy)
            have hcn := HCN.out k y hy
            have HC2 := hideIt hcn
            obtain ⟨f, hf⟩ : ∃ f, has (acc.take k) r = f := ⟨_, rfl⟩
            rw [hf] at HC2 ⊢
            clear hcn hf hy hc5
            cases f
            · by_cases he : y = r
              · have q1 : (y.toList == r.toList) = true := by rw [he]; simp
                have q2 : y.toList = r.toList := by rw [he]
                have HC3 : Hid (has (acc.take (k + 1)) r = true) := hideIt (by rw [HC2.out, decide_eq_true he]; rfl)
                clear he
                go_wp2
                go_roundw
                case rel => exact ⟨k + 1, by omega, by go_num, by rw [HC3.out], by first | rfl | trivial⟩
                case measure => simp [intOf]; omega
              · obtain ⟨q1, q2⟩ := tl_ne he
                have HC3 : Hid (has (acc.take (k + 1)) r = false) := hideIt (by rw [HC2.out, decide_eq_false he]; rfl)
                clear he
                go_wp2
                go_roundw
                case rel => exact ⟨k + 1, by omega, by go_num, by rw [HC3.out], by first | rfl | trivial⟩
                case measure => simp [intOf]; omega
            · have HC3 : Hid (has (acc.take (k + 1)) r = true) := hideIt (by rw [HC2.out]; rfl)
              go_wp2
              go_roundw
              case rel => exact ⟨k + 1, by omega, by go_num, by rw [HC3.out], by first | rfl | trivial⟩
              case measure => simp [intOf]; omega
          · have k2 : decide ((k : Int) < (q : Int)) = false := decide_eq_false (by omega)
            have hkq : k = q := by omega
            rw [hkq, HCE.out]
            have HO1 : Hid (wr.ownsRow w.heap.size 9 1 (.slice a5 q c5) q (strs acc)) := hideIt (by
              have := HOA.out
              refine ⟨this.1, ?_⟩
              rcases this.2 with h0 | ⟨gg, cap, cur, e, h1, hg, rr⟩
              · exact .inl h0
              · exact .inr ⟨gg, cap, cur, e, h1, (B1.out.block gg (block_lt hg)).trans hg, rr⟩)
            have HBB := hideIt (below2 HB.out B1.out)
            have hw2 : w.heap.size ≤ wr.heap.size := HBB.out.size
            cases hf : has acc r with
            | true =>
              have HB2 : Hid (blobs most acc (l.drop (i + 1)) = R) := hideIt (by rw [← HBL.out, if_pos hf])
              clear hf hkq
              go_wp2
              go_roundw
              case rel => exact ⟨i + 1, acc, by omega, by go_num, by rw [HQ.out]; omega, by rw [HQ.out]; exact HO1.out, HB2.out, HBB.out⟩
              case measure => simp [intOf]; omega
            | false =>
              have HB2 : Hid (blobs most (acc ++ [r]) (l.drop (i + 1)) = R) := hideIt (by rw [← HBL.out, if_neg (by rw [hf]; simp)])
              have HFI : Hid (∀ (v' : Value) (w' : World), w'.ownsRow w.heap.size 9 1 v' (q + 1) (strs acc ++ [.string r]) → w'.ownsRow w.heap.size 9 1 v' (acc ++ [r]).length (strs (acc ++ [r]))) := hideIt (fun v' w' h => by rw [strs_snoc, List.length_append, HQ.out]; exact h)
              have HGB : Hid (∀ w', (wr.alloc (.cells #[.string r] 9)).grownBy w' (Value.slice a5 q c5).ownBlock → Below w.heap.size w w') := hideIt (fun w' hg => (HBB.out.alloc hw2 _).grown hg (by simp; omega) (row_ge HO1.out))
              clear hf hkq
              go_wp2_with (first | (at_builtin; refine wpList_append_own _ rfl (.tmp 52) (.tmp 54) 22 rfl w.heap.size 9 i0 (.string ⟨#[]⟩) 1 16 Tryz.underlying22 hi0 hz0 hz1 hz2 rfl (by decide) _ q (strs acc) rfl (HO1.out.alloc _) ⟨wr.heap.size, 0, none⟩ 1 1 [.string r] rfl rfl (one_new _ _) (fun u hu => by simp at hu; subst hu; rfl) (by unfold maxLen; omega) (by omega) (by simp; omega) ?_; intro v2 w2 hown2 hg2 _; have G2 := hideIt (HFI.out _ _ hown2); have B2 := hideIt (HGB.out _ hg2); clear hown2 hg2))
              go_roundw
              case rel => exact ⟨i + 1, acc ++ [r], by omega, by go_num, by rw [List.length_append, HQ.out]; simp; omega, G2.out, HB2.out, B2.out⟩
              case measure => simp [intOf]; omega
    · have HE : Hid (R = acc) := hideIt (by
        rw [← hbl]
        by_cases h3 : i < n
        · exact blobs_full (by rw [HQ.out]; omega) _
        · rw [List.drop_of_length_le (by rw [HN.out]; omega), blobs])
      have hc2 : (¬ (i : Int) < (n : Int) ∧ decide ((i : Int) < (n : Int)) = false) ∨ ((i : Int) < (n : Int) ∧ decide ((i : Int) < (n : Int)) = true ∧ ¬ (q : Int) < (most : Int) ∧ decide ((q : Int) < (most : Int)) = false) := by
        by_cases g : (i : Int) < (n : Int)
        · exact .inr ⟨g, decide_eq_true g, by omega, decide_eq_false (by omega)⟩
        · exact .inl ⟨g, decide_eq_false g⟩
      clear hlt hbl ho hb hq hr5
      rcases hc2 with ⟨g1, g2⟩ | ⟨g1, g2, g3, g4⟩
      · go_wp2
        go_ret
        exact (HT.out _ _).2 ⟨_, rfl, by rw [HE.out, HQ.out]; exact HOA.out, HB.out⟩
      · go_wp2
        go_ret
        exact (HT.out _ _).2 ⟨_, rfl, by rw [HE.out, HQ.out]; exact HOA.out, HB.out⟩
end Go.Proofs.YtdbbgpcjclmelaaGreatDoor.Ch
namespace Go.Proofs.YtdbbgpcjclmelaaGreatDoor.Ch
open Cb Go.RowKit Go.Shelf
/-- An item: its base's id, its bytes, its place. -/
structure Im where
  b : ByteArray
  d : ByteArray
  pl : Int
def noIm : Im := ⟨⟨#[]⟩, ⟨#[]⟩, 0⟩
def imV (x : Im) : List Value := [.string x.b, .string x.d, .int .i64 x.pl]
def imsV (l : List Im) : List Value := l.flatMap imV
theorem imsV_len : ∀ l : List Im, (imsV l).length = l.length * 3
  | [] => rfl
  | x :: t => by
    have := imsV_len t
    unfold imsV at this ⊢
    simp [imV] at this ⊢
    omega
theorem imsV_append (l m : List Im) : imsV (l ++ m) = imsV l ++ imsV m := by simp [imsV]
theorem imsV_snoc (l : List Im) (x : Im) : imsV (l ++ [x]) = imsV l ++ [.string x.b, .string x.d, .int .i64 x.pl] := by simp [imsV, imV]
theorem imsV_at : ∀ (l : List Im) (j : Nat) (x : Im), l[j]? = some x → (imsV l)[j * 3]? = some (.string x.b) ∧ (imsV l)[j * 3 + 1]? = some (.string x.d) ∧ (imsV l)[j * 3 + 2]? = some (.int .i64 x.pl)
  | [], j, x, h => by simp at h
  | y :: t, 0, x, h => by
    simp at h
    subst h
    exact ⟨rfl, rfl, rfl⟩
  | y :: t, j + 1, x, h => by
    have h' : t[j]? = some x := by simpa using h
    obtain ⟨a, b, c⟩ := imsV_at t j x h'
    have e : imsV (y :: t) = .string y.b :: .string y.d :: .int .i64 y.pl :: imsV t := rfl
    rw [e, show (j + 1) * 3 = j * 3 + 1 + 1 + 1 by omega]
    exact ⟨by simpa using a, by simpa using b, by simpa using c⟩
/-- Which one is to be the base of the i-th. -/
def bof (bases : List Int) (i : Nat) : Option Nat := match bases[i]? with
  | some z => if 0 ≤ z ∧ z < (i : Int) then some z.toNat else none
  | none => none
theorem bof_lt {bases : List Int} {i k : Nat} (h : bof bases i = some k) : k < i ∧ bases[i]? = some (k : Int) := by
  unfold bof at h
  split at h
  · rename_i z hz
    split at h
    · cases h
      exact ⟨by omega, by rw [hz]; congr 1; omega⟩
    · cases h
  · cases h
def shaB (r : ByteArray) : ByteArray := Sa.Sha.sha r.data.toList
def makeB (b r : ByteArray) : ByteArray := bs (De.Dl.make b.data.toList r.data.toList)
def stepI (raws : List ByteArray) (bases : List Int) (far : List Nat) (i : Nat) : Im × Nat :=
  match bof bases i with
  | some k => if far.getD k 0 < 12 then (⟨shaB (raws.getD k ⟨#[]⟩), makeB (raws.getD k ⟨#[]⟩) (raws.getD i ⟨#[]⟩), 0⟩, far.getD k 0 + 1) else (⟨⟨#[]⟩, raws.getD i ⟨#[]⟩, 0⟩, 0)
  | none => (⟨⟨#[]⟩, raws.getD i ⟨#[]⟩, 0⟩, 0)
/-- The first items, and how far each is from a whole one. -/
def itms (raws : List ByteArray) (bases : List Int) : Nat → List Im × List Nat
  | 0 => ([], [])
  | i + 1 => ((itms raws bases i).1 ++ [(stepI raws bases (itms raws bases i).2 i).1], (itms raws bases i).2 ++ [(stepI raws bases (itms raws bases i).2 i).2])
theorem itms_len (raws : List ByteArray) (bases : List Int) : ∀ i, (itms raws bases i).1.length = i ∧ (itms raws bases i).2.length = i
  | 0 => ⟨rfl, rfl⟩
  | i + 1 => by
    obtain ⟨a, b⟩ := itms_len raws bases i
    simp [itms, a, b]
theorem far_le (raws : List ByteArray) (bases : List Int) : ∀ (i k d : Nat), (itms raws bases i).2[k]? = some d → d ≤ 12
  | 0, k, d, h => by simp [itms] at h
  | i + 1, k, d, h => by
    have hl := (itms_len raws bases i).2
    rw [itms] at h
    rcases Nat.lt_or_ge k i with hk | hk
    · rw [List.getElem?_append_left (by rw [hl]; exact hk)] at h
      exact far_le raws bases i k d h
    · rw [List.getElem?_append_right (by rw [hl]; exact hk), hl] at h
      have hki : k - i = 0 := by
        rcases Nat.eq_zero_or_pos (k - i) with h0 | h0
        · exact h0
        · rw [List.getElem?_eq_none (by simp; omega)] at h
          cases h
      rw [hki] at h
      simp at h
      subst h
      unfold stepI
      split
      · split
        · simp only; omega
        · exact Nat.zero_le _
      · exact Nat.zero_le _
set_option maxHeartbeats 800000 in
set_option maxRecDepth 100000 in
theorem baseOf_any (i : Nat) (v : Value) (bases : List Int) (w : World) (h : NRow w v bases) (hi : i ≤ 1000000) :
    Calls Tryz.prog 16 #[.int .i64 (i : Int), v] w fun e w' => e = .returned (match bof bases i with
      | some k => .tuple #[.int .i64 (k : Int), .bool true]
      | none => .tuple #[.int .i64 0, .bool false]) ∧ w' = w := by
  obtain ⟨V, hV⟩ : ∃ V, (match bof bases i with
      | some k => Value.tuple #[.int .i64 (k : Int), .bool true]
      | none => .tuple #[.int .i64 0, .bool false]) = V := ⟨_, rfl⟩
  rw [hV]
  obtain ⟨_, a, c, rfl, hle, ⟨hcm, hnn⟩, hrow⟩ := h
  obtain ⟨n, hn⟩ : ∃ n, bases.length = n := ⟨_, rfl⟩
  rw [hn] at hle hrow ⊢
  have iI : (i : Int) ≤ 1000000 := by omega
  by_cases h1 : i < n
  · have g1 : ¬ (n : Int) ≤ (i : Int) := by omega
    have g2 : decide ((n : Int) ≤ (i : Int)) = false := decide_eq_false g1
    have g3 : (i : Int) < (n : Int) := by omega
    have g4 : ¬ n ≤ i := by omega
    obtain ⟨b, o, rfl, hcells⟩ := hrow (by omega)
    obtain ⟨z, hz⟩ : ∃ z, bases[i]? = some z := ⟨bases[i]'(by rw [hn]; exact h1), by simp⟩
    have c0 := hcells.2 i _ (nums_at hz)
    by_cases h2 : z < 0
    · have HV : Hid (V = .tuple #[.int .i64 0, .bool false]) := hideIt (by rw [← hV, bof, hz]; simp only; rw [if_neg (by omega)])
      have k1 : decide (z < 0) = true := decide_eq_true h2
      clear hV hz hcells hrow hcm hn h1
      go_enter Tryz.func16, Tryz.ntmps16
      go_wp2
      go_ret2
      exact ⟨by rw [HV.out]; rfl, rfl⟩
    · have k1 : decide (z < 0) = false := decide_eq_false h2
      by_cases h3 : (i : Int) ≤ z
      · have HV : Hid (V = .tuple #[.int .i64 0, .bool false]) := hideIt (by rw [← hV, bof, hz]; simp only; rw [if_neg (by omega)])
        have k2 : decide ((i : Int) ≤ z) = true := decide_eq_true h3
        clear hV hz hcells hrow hcm hn h1
        go_enter Tryz.func16, Tryz.ntmps16
        go_wp2
        go_ret2
        exact ⟨by rw [HV.out]; rfl, rfl⟩
      · have HV : Hid (V = .tuple #[.int .i64 z, .bool true]) := hideIt (by
          rw [← hV, bof, hz]
          simp only
          rw [if_pos (by omega)]
          simp only [Int.toNat_of_nonneg (show 0 ≤ z by omega)])
        have k2 : decide ((i : Int) ≤ z) = false := decide_eq_false h3
        clear hV hz hcells hrow hcm hn h1
        go_enter Tryz.func16, Tryz.ntmps16
        go_wp2
        go_ret2
        exact ⟨by rw [HV.out]; rfl, rfl⟩
  · have HV : Hid (V = .tuple #[.int .i64 0, .bool false]) := hideIt (by rw [← hV, bof, List.getElem?_eq_none (by omega)])
    have g1 : (n : Int) ≤ (i : Int) := by omega
    have g2 : decide ((n : Int) ≤ (i : Int)) = true := decide_eq_true g1
    have g4 : n ≤ i := by omega
    clear hV hrow hcm hn h1
    go_enter Tryz.func16, Tryz.ntmps16
    go_wp2
    go_ret2
    exact ⟨by rw [HV.out]; rfl, rfl⟩
end Go.Proofs.YtdbbgpcjclmelaaGreatDoor.Ch
namespace Go.Proofs.YtdbbgpcjclmelaaGreatDoor.Ch
open Cb Go.RowKit Go.Shelf
open Sa (row_other)
theorem infoIm : (Tryz.prog.info? 32).map (fun i => (i.zero, i.size, i.bytes)) = some (some (.agg #[.string ⟨#[]⟩, .string ⟨#[]⟩, .int .i64 0]), 3, 40) := by kernel_rfl
def rowI (raws : List ByteArray) (bases : List Int) (n i : Nat) : List Im := (itms raws bases i).1 ++ List.replicate (n - i) noIm
def farR (raws : List ByteArray) (bases : List Int) (n i : Nat) : List Int := ((itms raws bases i).2.map fun d : Nat => (d : Int)) ++ List.replicate (n - i) 0
theorem rowI_at {raws : List ByteArray} {bases : List Int} {n i : Nat} (h : i < n) : (rowI raws bases n i)[i]? = some noIm := by
  have hl := (itms_len raws bases i).1
  rw [rowI, List.getElem?_append_right (by omega), hl, List.getElem?_replicate, if_pos (by omega)]
theorem farR_at {raws : List ByteArray} {bases : List Int} {n i : Nat} (h : i < n) : (farR raws bases n i)[i]? = some 0 := by
  have hl := (itms_len raws bases i).2
  rw [farR, List.getElem?_append_right (by simp [hl]), List.getElem?_replicate, if_pos (by simp [hl]; omega)]
theorem farR_old {raws : List ByteArray} {bases : List Int} {n i k : Nat} (h : k < i) : (farR raws bases n i)[k]? = some (((itms raws bases i).2.getD k 0 : Nat) : Int) := by
  have hl := (itms_len raws bases i).2
  rw [farR, List.getElem?_append_left (by simp [hl]; exact h), List.getElem?_map, List.getD, List.getElem?_eq_getElem (by omega)]
  rfl
theorem rowI_end (raws : List ByteArray) (bases : List Int) (n : Nat) : rowI raws bases n n = (itms raws bases n).1 := by simp [rowI]
theorem set3 (A R : List Value) (a b c a' b' c' : Value) (n : Nat) (h : A.length = n) : ((((A ++ a :: b :: c :: R).toArray).setIfInBounds n a').setIfInBounds (n + 1) b').setIfInBounds (n + 2) c' = (A ++ a' :: b' :: c' :: R).toArray := by
  subst h
  simp [List.setIfInBounds_toArray]
theorem set1 (A R : List Value) (a b c b' : Value) (n : Nat) (h : A.length = n) : ((A ++ a :: b :: c :: R).toArray).setIfInBounds (n + 1) b' = (A ++ a :: b' :: c :: R).toArray := by
  subst h
  simp [List.setIfInBounds_toArray]
theorem rowI_parts {raws : List ByteArray} {bases : List Int} {n i : Nat} (h : i < n) : imsV (rowI raws bases n i) = imsV (itms raws bases i).1 ++ .string ⟨#[]⟩ :: .string ⟨#[]⟩ :: .int .i64 0 :: imsV (List.replicate (n - (i + 1)) noIm) ∧ imsV (rowI raws bases n (i + 1)) = imsV (itms raws bases i).1 ++ .string (stepI raws bases (itms raws bases i).2 i).1.b :: .string (stepI raws bases (itms raws bases i).2 i).1.d :: .int .i64 (stepI raws bases (itms raws bases i).2 i).1.pl :: imsV (List.replicate (n - (i + 1)) noIm) := by
  constructor
  · rw [rowI, show n - i = (n - (i + 1)) + 1 by omega, List.replicate_succ, imsV_append]
    rfl
  · rw [rowI, itms, List.append_assoc, imsV_append]
    rfl
theorem farR_next {raws : List ByteArray} {bases : List Int} {n i : Nat} (h : i < n) : (nums (farR raws bases n i)).toArray.setIfInBounds i (.int .i64 (((stepI raws bases (itms raws bases i).2 i).2 : Nat) : Int)) = (nums (farR raws bases n (i + 1))).toArray := by
  have hl := (itms_len raws bases i).2
  have e1 : farR raws bases n i = ((itms raws bases i).2.map fun d : Nat => (d : Int)) ++ 0 :: List.replicate (n - (i + 1)) 0 := by
    rw [farR, show n - i = (n - (i + 1)) + 1 by omega, List.replicate_succ]
  have e2 : farR raws bases n (i + 1) = ((itms raws bases i).2.map fun d : Nat => (d : Int)) ++ (((stepI raws bases (itms raws bases i).2 i).2 : Nat) : Int) :: List.replicate (n - (i + 1)) 0 := by
    rw [farR, itms, List.map_append, List.append_assoc]
    rfl
  rw [e1, e2]
  simp [nums, List.setIfInBounds_toArray, hl]
theorem farR_same {raws : List ByteArray} {bases : List Int} {n i : Nat} (h : i < n) (h0 : (stepI raws bases (itms raws bases i).2 i).2 = 0) : farR raws bases n (i + 1) = farR raws bases n i := by
  rw [farR, farR, itms, List.map_append, List.append_assoc, show n - i = (n - (i + 1)) + 1 by omega, List.replicate_succ, h0]
  rfl
/-- The two rows, as they are filled. -/
structure IM (w : World) (raws : List ByteArray) (bases : List Int) (n i j : Nat) (X : World) : Prop where
  it : X.heap[w.heap.size]? = some (.cells (imsV (rowI raws bases n i)).toArray 32 (0, 0))
  fr : X.heap[w.heap.size + 1]? = some (.cells (nums (farR raws bases n j)).toArray 3 (0, 0))
  below : Below w.heap.size w X
theorem IM.after {w X Y : World} {raws : List ByteArray} {bases : List Int} {n i j : Nat} (h : IM w raws bases n i j X) (hb : Below X.heap.size X Y) : IM w raws bases n i j Y :=
  ⟨by rw [hb.block _ (block_lt h.it), h.it], by rw [hb.block _ (block_lt h.fr), h.fr], h.below.trans (hb.mono h.below.size)⟩
theorem IM.drew {w X : World} {raws : List ByteArray} {bases : List Int} {n i j : Nat} (h : IM w raws bases n i j X) : IM w raws bases n i j X.drew := ⟨h.it, h.fr, h.below.drew⟩
theorem IM.whole {w X : World} {raws : List ByteArray} {bases : List Int} {n i : Nat} {r : ByteArray} (h : IM w raws bases n i i X) (hi : i < n) (hs : stepI raws bases (itms raws bases i).2 i = (⟨⟨#[]⟩, r, 0⟩, 0)) : IM w raws bases n (i + 1) (i + 1) (X.setCell ⟨w.heap.size, i * 3 + 1, none⟩ (.string r)) := by
  have hl : (imsV (itms raws bases i).1).length = i * 3 := by rw [imsV_len, (itms_len raws bases i).1]
  obtain ⟨p1, p2⟩ := rowI_parts (raws := raws) (bases := bases) hi
  rw [hs] at p2
  refine ⟨?_, ?_, h.below.setCell (p := ⟨w.heap.size, i * 3 + 1, none⟩) (Nat.le_refl _) _⟩
  · rw [heap_setCell_same _ w.heap.size _ _ 32 _ h.it, p1, p2, set1 _ _ _ _ _ _ _ hl]
  · rw [row_other _ (by omega), h.fr, farR_same hi (by rw [hs])]
theorem IM.far {w X : World} {raws : List ByteArray} {bases : List Int} {n i d : Nat} (h : IM w raws bases n i i X) (hi : i < n) (hs : (stepI raws bases (itms raws bases i).2 i).2 = d) : IM w raws bases n i (i + 1) (X.setCell ⟨w.heap.size + 1, i, none⟩ (.int .i64 (d : Int))) := by
  refine ⟨?_, ?_, h.below.setCell (p := ⟨w.heap.size + 1, i, none⟩) (Nat.le_succ _) _⟩
  · rw [row_other _ (by omega), h.it]
  · rw [heap_setCell_same _ (w.heap.size + 1) _ _ 3 _ h.fr, ← hs, farR_next hi]
theorem IM.made {w X : World} {raws : List ByteArray} {bases : List Int} {n i : Nat} {B D : ByteArray} (h : IM w raws bases n i (i + 1) X) (hi : i < n) (hs : (stepI raws bases (itms raws bases i).2 i).1 = ⟨B, D, 0⟩) : IM w raws bases n (i + 1) (i + 1) (((X.setCell ⟨w.heap.size, i * 3, none⟩ (.string B)).setCell ⟨w.heap.size, i * 3 + 1, none⟩ (.string D)).setCell ⟨w.heap.size, i * 3 + 2, none⟩ (.int .i64 0)) := by
  have hl : (imsV (itms raws bases i).1).length = i * 3 := by rw [imsV_len, (itms_len raws bases i).1]
  obtain ⟨p1, p2⟩ := rowI_parts (raws := raws) (bases := bases) hi
  rw [hs] at p2
  refine ⟨?_, ?_, ((h.below.setCell (p := ⟨w.heap.size, i * 3, none⟩) (Nat.le_refl _) _).setCell (p := ⟨w.heap.size, i * 3 + 1, none⟩) (Nat.le_refl _) _).setCell (p := ⟨w.heap.size, i * 3 + 2, none⟩) (Nat.le_refl _) _⟩
  · rw [heap_setCell_same _ w.heap.size _ _ 32 _ (heap_setCell_same _ w.heap.size _ _ 32 _ (heap_setCell_same _ w.heap.size _ _ 32 _ h.it)), p1, p2, set3 _ _ _ _ _ _ _ _ _ hl]
  · rw [row_other _ (by omega), row_other _ (by omega), row_other _ (by omega), h.fr]
theorem IM.cells {w X : World} {raws : List ByteArray} {bases : List Int} {n i j : Nat} (h : IM w raws bases n i j X) (hi : i < n) : X.cell? ⟨w.heap.size, i * 3, none⟩ = some (.string ⟨#[]⟩) ∧ X.cell? ⟨w.heap.size, i * 3 + 1, none⟩ = some (.string ⟨#[]⟩) ∧ X.cell? ⟨w.heap.size, i * 3 + 2, none⟩ = some (.int .i64 0) ∧ (∀ p, X.frozen? ⟨w.heap.size, p, none⟩ = false) ∧ ∀ p, X.frozen? ⟨w.heap.size + 1, p, none⟩ = false := by
  obtain ⟨a, b, c⟩ := imsV_at _ _ _ (rowI_at (raws := raws) (bases := bases) hi)
  exact ⟨cellAt h.it (by rw [List.getElem?_toArray]; exact a), cellAt h.it (by rw [List.getElem?_toArray]; exact b), cellAt h.it (by rw [List.getElem?_toArray]; exact c), fun p => Lib.frozen_of_heap h.it p, fun p => Lib.frozen_of_heap h.fr p⟩
theorem IM.farAt {w X : World} {raws : List ByteArray} {bases : List Int} {n i j k : Nat} {z : Int} (h : IM w raws bases n i j X) (hk : (farR raws bases n j)[k]? = some z) : X.cell? ⟨w.heap.size + 1, k, none⟩ = some (.int .i64 z) := cellAt h.fr (by rw [List.getElem?_toArray]; exact nums_at hk)
theorem made_ims (n : Nat) : madeCells #[Value.string ⟨#[]⟩, .string ⟨#[]⟩, .int .i64 0] (n * 3) = (imsV (List.replicate n noIm)).toArray := by
  apply Array.ext_getElem?
  intro k
  by_cases h : k < n * 3
  · have hj : (List.replicate n noIm)[k / 3]? = some noIm := by rw [List.getElem?_replicate, if_pos (by omega)]
    obtain ⟨a, b, c⟩ := imsV_at _ _ _ hj
    have e : (madeCells #[Value.string ⟨#[]⟩, .string ⟨#[]⟩, .int .i64 0] (n * 3))[k]? = some ((#[Value.string ⟨#[]⟩, .string ⟨#[]⟩, .int .i64 0] : Array Value)[k % 3]!) := by
      simp only [madeCells, Array.getElem?_map]
      rw [Array.getElem?_range]
      simp only [h, if_true, Option.map_some]
      rfl
    rw [e, List.getElem?_toArray]
    rcases (by omega : k % 3 = 0 ∨ k % 3 = 1 ∨ k % 3 = 2) with h0 | h0 | h0
    · rw [show k / 3 * 3 = k by omega] at a
      rw [a, h0]; rfl
    · rw [show k / 3 * 3 + 1 = k by omega] at b
      rw [b, h0]; rfl
    · rw [show k / 3 * 3 + 2 = k by omega] at c
      rw [c, h0]; rfl
  · rw [Array.getElem?_eq_none (by simp [size_madeCells]; omega), Array.getElem?_eq_none (by simp [imsV_len]; omega)]
theorem made_nums (n : Nat) : madeCells #[Value.int .i64 0] (n * 1) = (nums (List.replicate n 0)).toArray := by
  apply Array.ext_getElem?
  intro k
  by_cases h : k < n
  · have e : (madeCells #[Value.int .i64 0] (n * 1))[k]? = some ((#[Value.int .i64 0] : Array Value)[k % 1]!) := by
      simp only [madeCells, Array.getElem?_map]
      rw [Array.getElem?_range]
      simp only [show k < n * 1 by omega, if_true, Option.map_some]
      rfl
    rw [e, List.getElem?_toArray, nums_at (x := 0) (by rw [List.getElem?_replicate, if_pos h]), show k % 1 = 0 by omega]
    rfl
  · rw [Array.getElem?_eq_none (by simp [size_madeCells]; omega), Array.getElem?_eq_none (by simp [nums_len]; omega)]
end Go.Proofs.YtdbbgpcjclmelaaGreatDoor.Ch
namespace Go.Proofs.YtdbbgpcjclmelaaGreatDoor.Ch
open Cb Go.RowKit Go.Shelf
theorem make_c (b r : ByteArray) (w : World) (hb : b.size ≤ 1000000) (hr : r.size ≤ 1000000) : Calls Tryz.prog 19 #[.string b, .string r] w fun e w' => e = .returned (.string (makeB b r)) ∧ Below w.heap.size w w' := by
  have := De.make_any b.data.toList r.data.toList w (by rw [Array.length_toList]; exact hb) (by rw [Array.length_toList]; exact hr)
  rw [bs_data, bs_data] at this
  exact this
def ItTo (w : World) (l : List Im) (e : Ending) (w' : World) : Prop := ∃ v, e = .returned v ∧ VRow 3 w' v l.length (imsV l) ∧ Below w.heap.size w w'
theorem step_none {raws : List ByteArray} {bases : List Int} {i : Nat} {r : ByteArray} (hr : raws[i]? = some r) (h : bof bases i = none ∨ ∃ k, bof bases i = some k ∧ ¬ (itms raws bases i).2.getD k 0 < 12) : stepI raws bases (itms raws bases i).2 i = (⟨⟨#[]⟩, r, 0⟩, 0) := by
  have e : raws.getD i ⟨#[]⟩ = r := by rw [List.getD, hr]; rfl
  unfold stepI
  rcases h with h | ⟨k, h, hk⟩
  · rw [h]; simp only [e]
  · rw [h]; simp only [e]; rw [if_neg hk]
theorem step_some {raws : List ByteArray} {bases : List Int} {i k : Nat} {r b : ByteArray} (hr : raws[i]? = some r) (hb : raws[k]? = some b) (h : bof bases i = some k) (hk : (itms raws bases i).2.getD k 0 < 12) : stepI raws bases (itms raws bases i).2 i = (⟨shaB b, makeB b r, 0⟩, (itms raws bases i).2.getD k 0 + 1) := by
  have e : raws.getD i ⟨#[]⟩ = r := by rw [List.getD, hr]; rfl
  have e2 : raws.getD k ⟨#[]⟩ = b := by rw [List.getD, hb]; rfl
  unfold stepI
  rw [h]
  simp only [e, e2]
  rw [if_pos hk]
set_option maxHeartbeats 1600000 in
set_option maxRecDepth 100000 in
theorem items_any (v v2 : Value) (raws : List ByteArray) (bases : List Int) (w : World) (h : TRow w v raws) (h2 : NRow w v2 bases) (hk : Ob.Ok w) (hn1 : raws.length ≤ 100000) (hs : ∀ x ∈ raws, x.size ≤ 1000000) :
    Calls Tryz.prog 7 #[v, v2] w fun e w' => ItTo w (itms raws bases raws.length).1 e w' := by
  obtain ⟨i0, hi0, hz0, hz1, hz2⟩ := info_parts infoIm
  obtain ⟨k0, hk0, hy0, hy1, hy2⟩ := info_parts infoZ
  have HT : Hid (∀ e w', ItTo w (itms raws bases raws.length).1 e w' ↔ ∃ v, e = .returned v ∧ VRow 3 w' v (itms raws bases raws.length).1.length (imsV (itms raws bases raws.length).1) ∧ Below w.heap.size w w') := hideIt (fun _ _ => Iff.rfl)
  have HBO := hideIt (fun (i : Nat) w' (hb : Below w.heap.size w w') (hi : i ≤ 1000000) => baseOf_any i v2 bases w' (h2.below hb) hi)
  have HOK := hideIt (fun w' (hb : Below w.heap.size w w') => hk.below hb)
  obtain ⟨_, a, c, rfl, hlc, ⟨hcm, hnn⟩, hrow⟩ := h
  have HR := hideIt hrow
  have HSZ := hideIt (fun (i : Nat) (x : ByteArray) (hx : raws[i]? = some x) => hs x (List.mem_of_getElem? hx))
  have HCL := hideIt (fun (s : ByteArray) w (hs : s.size ≤ 1000000) => Ob.clone_any s w (by omega))
  have HID := hideIt (fun (s : ByteArray) w (hs : s.size ≤ 1000000) (ho : Ob.Ok w) => Ob.id_any s w (by omega) ho)
  have HMK := hideIt make_c
  have HLN := hideIt (itms_len raws bases)
  have HFL := hideIt (far_le raws bases)
  obtain ⟨n, hn⟩ : ∃ n, raws.length = n := ⟨_, rfl⟩
  have HN := hideIt hn
  rw [hn] at hlc HR HT hn1 ⊢
  have hm1 := run_make (P := Tryz.prog) w 25 32 i0 (.agg #[.string ⟨#[]⟩, .string ⟨#[]⟩, .int .i64 0]) Tryz.underlying25 hi0 hz0 .i64 .i64 (n : Int) (n : Int) (by omega) (by omega) (by rw [hz2]; omega) (by omega)
  rw [hz1] at hm1
  simp only [Int.toNat_natCast] at hm1
  obtain ⟨W1, hW1⟩ : ∃ W1, w.alloc (.cells (madeCells #[.string ⟨#[]⟩, .string ⟨#[]⟩, .int .i64 0] (n * 3)) 32) = W1 := ⟨_, rfl⟩
  have hm1' : (Instr.makeSlice 25 (.int .i64 (n : Int)) (.int .i64 (n : Int))).run Tryz.prog w = .ok (.slice (some ⟨w.heap.size, 0, none⟩) n n) W1 := by rw [← hW1]; exact hm1
  have hs1 : W1.heap.size = w.heap.size + 1 := by rw [← hW1]; simp
  have hm2 := run_make (P := Tryz.prog) W1 23 3 k0 (.int .i64 0) Tryz.underlying23 hk0 hy0 .i64 .i64 (n : Int) (n : Int) (by omega) (by omega) (by rw [hy2]; omega) (by omega)
  rw [hy1] at hm2
  simp only [Int.toNat_natCast] at hm2
  obtain ⟨W2, hW2⟩ : ∃ W2, W1.alloc (.cells (madeCells #[.int .i64 0] (n * 1)) 3) = W2 := ⟨_, rfl⟩
  have hm2' : (Instr.makeSlice 23 (.int .i64 (n : Int)) (.int .i64 (n : Int))).run Tryz.prog W1 = .ok (.slice (some ⟨w.heap.size + 1, 0, none⟩) n n) W2 := by rw [← hW2, ← hs1]; exact hm2
  have HM0 : Hid (IM w raws bases n 0 0 W2) := hideIt (by
    refine ⟨?_, ?_, ?_⟩
    · rw [← hW2, Below.heap_alloc _ _ _ (by rw [hs1]; omega), ← hW1, made_ims]
      have : rowI raws bases n 0 = List.replicate n noIm := by simp [rowI, itms]
      rw [this]
      exact alloc_at rfl
    · rw [← hW2, made_nums]
      have : farR raws bases n 0 = List.replicate n 0 := by simp [farR, itms]
      rw [this]
      exact alloc_at hs1
    · rw [← hW2, ← hW1]
      exact ((Below.refl _ w).alloc (Nat.le_refl _) _).alloc (by simp) _)
  have nI : (n : Int) ≤ 100000 := by omega
  have HRE := hideIt (rowI_end raws bases n)
  clear hm1 hm2 hW1 hW2 hs1 hn hrow hnn hcm hs hk h2
  go_enter Tryz.func7, Tryz.ntmps7
  go_wp2
  go_loopw [19] (fun t19 wr => ∃ i : Nat, i ≤ n ∧ t19 = .int .i64 (i : Int) ∧ IM w raws bases n i i wr) (fun t19 _ => n - (intOf t19).toNat)
  case atStart => exact ⟨0, by omega, rfl, HM0.out⟩
  case round =>
    obtain ⟨i, hi, rfl, hm⟩ := hrel
    have HM := hideIt hm
    by_cases hlt : i < n
    · have i1 : (i : Int) < (n : Int) := by omega
      have i2 : decide ((i : Int) < (n : Int)) = true := decide_eq_true i1
      obtain ⟨b, o, rfl, hcells⟩ := HR.out (by omega)
      obtain ⟨x, hxi⟩ : ∃ x, raws[i]? = some x := ⟨raws[i]'(by rw [HN.out]; exact hlt), by simp⟩
      have c0 := (hcells.below hm.below).2 i _ (strs_at hxi)
      have hxz := HSZ.out i x hxi
      have HBI := hideIt (HBO.out i wr hm.below (by omega))
      have HWH := hideIt (fun X (hX : IM w raws bases n i i X) hs => hX.whole (r := x) hlt hs)
      obtain ⟨e0, e1, e2, e3, e4⟩ := hm.cells hlt
      have HCX := hideIt (fun w' (hb : Below wr.heap.size wr w') => (hm.after hb).cells hlt)
      have hcx := HCL.out x
      have HCX2 := hideIt (fun w => hcx w hxz)
      cases hbo : bof bases i with
      | none =>
        rw [hbo] at HBI
        have HST := hideIt (step_none hxi (.inl hbo))
        have f1 := e3 (i * 3 + 1)
        clear hbo hcells hxi e3 e4 hm hcx
        go_wp2_with (first
          | (go_at_call 16; refine HBI.out.mono ?_; rintro e wx ⟨rfl, hwx⟩; obtain rfl := hwx.symm)
          | (go_at_call 17; refine (HCX2.out _).mono ?_; rintro e w1 ⟨rfl, hb1⟩; obtain ⟨z0, z1, z2, z3, z4⟩ := HCX.out _ hb1; have f2 := z3 (i * 3 + 1); have G1 := hideIt (HWH.out _ (HM.out.after hb1) HST.out); clear hb1 z3 z4))
        go_roundw
        case rel => exact ⟨i + 1, by omega, by go_num, G1.out⟩
        case measure => simp [intOf]; omega
      | some k =>
        rw [hbo] at HBI
        obtain ⟨hki, hbk⟩ := bof_lt hbo
        have k1 : (k : Int) < (n : Int) := by omega
        have hfk := farR_old (raws := raws) (bases := bases) (n := n) hki
        have d0 := hm.farAt hfk
        obtain ⟨f, hf⟩ : ∃ f, (itms raws bases i).2.getD k 0 = f := ⟨_, rfl⟩
        rw [hf] at d0
        by_cases h12 : f < 12
        · have g1 : ¬ (12 : Int) ≤ (f : Int) := by omega
          have g2 : decide ((12 : Int) ≤ (f : Int)) = false := decide_eq_false g1
          have g3 : ¬ 12 ≤ f := by omega
          obtain ⟨y, hy⟩ : ∃ y, raws[k]? = some y := ⟨raws[k]'(by rw [HN.out]; omega), by simp⟩
          obtain ⟨f1, hf1⟩ : ∃ f1, f + 1 = f1 := ⟨_, rfl⟩
          have f2 : (f : Int) + 1 = (f1 : Int) := by omega
          have f3 : (f1 : Int) ≤ 12 := by omega
          have hst := step_some hxi hy hbo (by rw [hf]; exact h12)
          rw [hf, hf1] at hst
          have hyz := HSZ.out k y hy
          have d1 := hm.farAt (farR_at (raws := raws) (bases := bases) hlt)
          have d2 := e4 i
          have d3 := (hcells.below hm.below).2 k _ (strs_at hy)
          have IMX : Hid (IM w raws bases n i (i + 1) (wr.setCell ⟨w.heap.size + 1, i, none⟩ (.int .i64 (f1 : Int))).drew) := hideIt (hm.far hlt (by rw [hst])).drew
          have HMD := hideIt (fun X (hX : IM w raws bases n i (i + 1) X) => hX.made hlt (B := shaB y) (D := makeB y x) (by rw [hst]))
          have HFA : Hid (∀ X, IM w raws bases n i (i + 1) X → X.cell? ⟨w.heap.size, i * 3, none⟩ = some (.string ⟨#[]⟩) ∧ X.cell? ⟨w.heap.size, i * 3 + 1, none⟩ = some (.string ⟨#[]⟩) ∧ X.cell? ⟨w.heap.size, i * 3 + 2, none⟩ = some (.int .i64 0) ∧ X.frozen? ⟨w.heap.size, i * 3, none⟩ = false ∧ X.frozen? ⟨w.heap.size, i * 3 + 1, none⟩ = false ∧ X.frozen? ⟨w.heap.size, i * 3 + 2, none⟩ = false ∧ X.cell? ⟨b, o + k, none⟩ = some (.string y)) := hideIt (fun X hX => by
            obtain ⟨q0, q1, q2, q3, q4⟩ := hX.cells hlt
            exact ⟨q0, q1, q2, q3 _, q3 _, q3 _, (hcells.below hX.below).2 k _ (strs_at hy)⟩)
          have HI1 := hideIt (fun X (hX : IM w raws bases n i (i + 1) X) => HID.out y X hyz (HOK.out X hX.below))
          have HI2 : Hid (∀ X, IM w raws bases n i (i + 1) X → Calls Tryz.prog 18 #[.string y] X fun e w' => e = .returned (.string (shaB y)) ∧ Below X.heap.size X w') := HI1
          have HM1 := hideIt (fun X => HMK.out y x X hyz hxz)
          generalize shaB y = B at HI2 HMD
          generalize makeB y x = D at HM1 HMD
          obtain ⟨s0, s1, s2, s3, s4, s5, s6⟩ := HFA.out _ IMX.out
          clear hbo hcells hxi e0 e1 e2 e3 e4 hm hcx hfk hf hbk h12 hst hy HI1 hf1
          go_wp2_with (first
            | (go_at_call 16; refine HBI.out.mono ?_; rintro e wx ⟨rfl, hwx⟩; obtain rfl := hwx.symm))
          go_region_with (first
            | (go_at_call 18; refine (HI2.out _ JA.out).mono ?_; rintro e w4 ⟨rfl, hb4⟩; have FN := hideIt (JA.out.after hb4); obtain ⟨r0, r1, r2, r3, r4, r5, r6⟩ := HFA.out _ FN.out; clear hb4)
            | (go_at_call 18; refine (HI2.out _ IMX.out).mono ?_; rintro e w3 ⟨rfl, hb3⟩; have IA := hideIt (IMX.out.after hb3); obtain ⟨t0, t1, t2, t3, t4, t5, t6⟩ := HFA.out _ IA.out; clear hb3)
            | (go_at_call 19; refine (HM1.out _).mono ?_; rintro e w4 ⟨rfl, hb4⟩; have FN := hideIt (IA.out.after hb4); obtain ⟨r0, r1, r2, r3, r4, r5, r6⟩ := HFA.out _ FN.out; clear hb4)
            | (go_at_call 19; refine (HM1.out _).mono ?_; rintro e w3 ⟨rfl, hb3⟩; have JA := hideIt (IMX.out.after hb3); obtain ⟨t0, t1, t2, t3, t4, t5, t6⟩ := HFA.out _ JA.out; clear hb3))
          all_goals go_wp2
          all_goals go_roundw
          case rel => exact ⟨i + 1, by omega, by go_num, HMD.out _ FN.out⟩
          case measure => simp [intOf]; omega
          case rel => exact ⟨i + 1, by omega, by go_num, HMD.out _ FN.out⟩
          case measure => simp [intOf]; omega
          case rel => exact ⟨i + 1, by omega, by go_num, HMD.out _ FN.out⟩
          case measure => simp [intOf]; omega
        · have g1 : (12 : Int) ≤ (f : Int) := by omega
          have g2 : decide ((12 : Int) ≤ (f : Int)) = true := decide_eq_true g1
          have g3 : 12 ≤ f := by omega
          have HST := hideIt (step_none hxi (.inr ⟨k, hbo, by rw [hf]; exact h12⟩))
          have f1 := e3 (i * 3 + 1)
          clear hbo hcells hxi e3 e4 hm hcx hfk hf hbk h12
          go_wp2_with (first
            | (go_at_call 16; refine HBI.out.mono ?_; rintro e wx ⟨rfl, hwx⟩; obtain rfl := hwx.symm)
            | (go_at_call 17; refine (HCX2.out _).mono ?_; rintro e w1 ⟨rfl, hb1⟩; obtain ⟨z0, z1, z2, z3, z4⟩ := HCX.out _ hb1; have f2 := z3 (i * 3 + 1); have G1 := hideIt (HWH.out _ (HM.out.after hb1) HST.out); clear hb1 z3 z4))
          go_roundw
          case rel => exact ⟨i + 1, by omega, by go_num, G1.out⟩
          case measure => simp [intOf]; omega
    · have i2 : decide ((i : Int) < (n : Int)) = false := decide_eq_false (by omega)
      obtain rfl : i = n := by omega
      have HF : Hid (VRow 3 wr (.slice (some ⟨w.heap.size, 0, none⟩) i i) (itms raws bases i).1.length (imsV (itms raws bases i).1)) := hideIt (by
        have hl := (HLN.out i).1
        have hi' := hm.it
        rw [HRE.out] at hi'
        refine ⟨by rw [imsV_len], some ⟨w.heap.size, 0, none⟩, i, by rw [hl], by omega, ⟨by unfold maxLen; omega, fun h => by cases h⟩, fun _ => ⟨_, _, rfl, block_lt hi', fun j u hj => ?_⟩⟩
        rw [Nat.zero_add]
        exact cellAt hi' (by rw [List.getElem?_toArray]; exact hj))
      have HB := hideIt hm.below
      clear hm
      go_wp2
      go_ret
      exact (HT.out _ _).2 ⟨_, rfl, HF.out, HB.out⟩
end Go.Proofs.YtdbbgpcjclmelaaGreatDoor.Ch
namespace Go.Proofs.YtdbbgpcjclmelaaGreatDoor.Ch
open Cb Go.RowKit Go.Shelf
theorem infoIr : (Tryz.prog.info? 31).map (fun i => (i.zero, i.size, i.bytes)) = some (some (.agg #[.string ⟨#[]⟩, .string ⟨#[]⟩, .int .i64 0]), 3, 40) := by kernel_rfl
theorem refmake_c (b r : ByteArray) (w : World) (hb : b.size ≤ 1000000) (hr : r.size ≤ 1000000) : Calls Tryz.prog 21 #[.string b, .string r] w fun e w' => e = .returned (.string (makeB b r)) ∧ Below w.heap.size w w' := by
  have := De.refmake_any b.data.toList r.data.toList w (by rw [Array.length_toList]; exact Nat.le_trans hb (by omega)) (by rw [Array.length_toList]; exact Nat.le_trans hr (by omega))
  rw [bs_data, bs_data] at this
  exact this
def farN (raws : List ByteArray) (bases : List Int) (i : Nat) : List Int := (itms raws bases i).2.map fun d : Nat => (d : Int)
theorem farN_next (raws : List ByteArray) (bases : List Int) (i : Nat) : farN raws bases (i + 1) = farN raws bases i ++ [(((stepI raws bases (itms raws bases i).2 i).2 : Nat) : Int)] := by simp [farN, itms]
theorem farN_len (raws : List ByteArray) (bases : List Int) (i : Nat) : (farN raws bases i).length = i := by simp [farN, (itms_len raws bases i).2]
theorem farN_at {raws : List ByteArray} {bases : List Int} {i k : Nat} (h : k < i) : (farN raws bases i)[k]? = some (((itms raws bases i).2.getD k 0 : Nat) : Int) := by
  have hl := (itms_len raws bases i).2
  rw [farN, List.getElem?_map, List.getD, List.getElem?_eq_getElem (by omega)]
  rfl
/-- Two rows of one's own of unlike types. -/
theorem other_type {w : World} {B n k : Nat} {t t' : TypeId} {v : Value} {xs : List Value} {g : Nat} {cs : Array Value} {fr : Nat × Nat} (hv : w.ownsRow B t k v n xs) (hg : w.heap[g]? = some (.cells cs t' fr)) (ht : t' ≠ t) : some g ≠ v.ownBlock := by
  intro e
  rcases hv.2 with ⟨rfl, _⟩ | ⟨g', cap, cur, rfl, _, hh, _⟩
  · simp [Value.ownBlock] at e
  · simp [Value.ownBlock] at e
    subst e
    rw [hg] at hh
    simp only [Option.some.injEq, Obj.cells.injEq] at hh
    exact ht hh.2.1
theorem own_grown {t t' : TypeId} {X Y : World} {B n B' n' k k' : Nat} {v v' : Value} {xs xs' : List Value} (h : X.ownsRow B t k v n xs) (hv : X.ownsRow B' t' k' v' n' xs') (hg : X.grownBy Y v'.ownBlock) (ht : t ≠ t') : Y.ownsRow B t k v n xs := by
  refine ⟨h.1, ?_⟩
  rcases h.2 with h0 | ⟨g, cap, cur, e, h1, hh, r⟩
  · exact .inl h0
  · exact .inr ⟨g, cap, cur, e, h1, (hg.block g (block_lt hh) (other_type hv hh ht)).trans hh, r⟩
theorem own_below {w w' : World} {B n s : Nat} {t : TypeId} {v : Value} {xs : List Value} (h : w.ownsRow B t s v n xs) (hb : Below w.heap.size w w') : w'.ownsRow B t s v n xs := by
  refine ⟨h.1, ?_⟩
  rcases h.2 with h0 | ⟨g, cap, cur, e, h1, hg, r⟩
  · exact .inl h0
  · exact .inr ⟨g, cap, cur, e, h1, (hb.block g (block_lt hg)).trans hg, r⟩
/-- The two rows of the document's. -/
structure RM (w : World) (raws : List ByteArray) (bases : List Int) (i : Nat) (v1 v2 : Value) (X : World) : Prop where
  it : X.ownsRow w.heap.size 31 3 v1 i (imsV (itms raws bases i).1)
  fr : X.ownsRow w.heap.size 3 1 v2 i (nums (farN raws bases i))
  below : Below w.heap.size w X
theorem RM.after {w X Y : World} {raws : List ByteArray} {bases : List Int} {i : Nat} {v1 v2 : Value} (h : RM w raws bases i v1 v2 X) (hb : Below X.heap.size X Y) : RM w raws bases i v1 v2 Y := ⟨own_below h.it hb, own_below h.fr hb, h.below.trans (hb.mono h.below.size)⟩
theorem RM.start (w : World) (raws : List ByteArray) (bases : List Int) : RM w raws bases 0 (.slice (some ⟨w.heap.size, 0, none⟩) 0 0) (.slice (some ⟨w.heap.size + 1, 0, none⟩) 0 0) ((w.alloc (.cells #[] 31)).alloc (.cells #[] 3)) := by
  refine ⟨(new_empty _ 3 w _ (Nat.le_refl _)).alloc _, ?_, ((Below.refl _ w).alloc (Nat.le_refl _) _).alloc (by simp) _⟩
  have := new_empty w.heap.size 1 (w.alloc (.cells #[] 31)) 3 (by simp)
  rw [show (w.alloc (.cells #[] 31)).heap.size = w.heap.size + 1 by simp] at this
  exact this
theorem three_new {w : World} (x : Im) (t : TypeId) (j : Nat) (u : Value) (h : (imV x)[j]? = some u) : (w.alloc (.cells #[.string x.b, .string x.d, .int .i64 x.pl] t)).cell? ((⟨w.heap.size, 0, none⟩ : Addr).add j) = some u := by
  match j, h with
  | 0, h => exact cellAt (alloc_at rfl) (by simpa [imV] using h)
  | 1, h => exact cellAt (alloc_at rfl) (by simpa [imV] using h)
  | 2, h => exact cellAt (alloc_at rfl) (by simpa [imV] using h)
  | j + 3, h => simp [imV] at h
theorem RM.base {w Y : World} {raws : List ByteArray} {bases : List Int} {i : Nat} {v1 v2 : Value} (h : RM w raws bases i v1 v2 Y) (o1 : Obj) : w.heap.size ≤ (Y.alloc o1).heap.size := (h.below.alloc h.below.size o1).size
theorem RM.mid {w Y Y1 : World} {raws : List ByteArray} {bases : List Int} {i : Nat} {v1 v2 : Value} {o1 : Obj} (h : RM w raws bases i v1 v2 Y) (g1 : (Y.alloc o1).grownBy Y1 v1.ownBlock) : Y1.ownsRow w.heap.size 3 1 v2 i (nums (farN raws bases i)) ∧ w.heap.size ≤ Y1.heap.size :=
  ⟨own_grown (h.fr.alloc o1) (h.it.alloc o1) g1 (by decide), ((h.below.alloc h.below.size o1).grown g1 (h.base o1) (row_ge (h.it.alloc o1))).size⟩
theorem three_at {w : World} {N : Nat} (x : Im) (t : TypeId) (hN : w.heap.size = N) (j : Nat) (u : Value) (h : (imV x)[j]? = some u) : (w.alloc (.cells #[.string x.b, .string x.d, .int .i64 x.pl] t)).cell? ((⟨N, 0, none⟩ : Addr).add j) = some u := by
  subst hN
  exact three_new x t j u h
theorem RM.next {w Y Y1 Y2 : World} {raws : List ByteArray} {bases : List Int} {i d : Nat} {v1 v2 v3 v4 : Value} {x : Im} {o1 o2 : Obj} (h : RM w raws bases i v1 v2 Y) (hs : stepI raws bases (itms raws bases i).2 i = (x, d)) (h1 : Y1.ownsRow w.heap.size 31 3 v3 (i + 1) (imsV (itms raws bases i).1 ++ imV x)) (g1 : (Y.alloc o1).grownBy Y1 v1.ownBlock) (h2 : Y2.ownsRow w.heap.size 3 1 v4 (i + 1) (nums (farN raws bases i) ++ [.int .i64 (d : Int)])) (g2 : (Y1.alloc o2).grownBy Y2 v2.ownBlock) (hf : (Y1.alloc o2).ownsRow w.heap.size 3 1 v2 i (nums (farN raws bases i))) : RM w raws bases (i + 1) v3 v4 Y2 := by
  have hb1 : Below w.heap.size w Y1 := (h.below.alloc h.below.size _).grown g1 (by simp; exact Nat.le_succ_of_le h.below.size) (row_ge (h.it.alloc o1))
  refine ⟨?_, ?_, (hb1.alloc hb1.size _).grown g2 (by simp; exact Nat.le_succ_of_le hb1.size) (row_ge hf)⟩
  · have := own_grown (h1.alloc o2) hf g2 (by decide)
    rw [itms, hs]
    simp only
    rw [imsV_append]
    simpa [imsV] using this
  · rw [farN_next, hs, nums_snoc]
    exact h2
def Bw (w X : World) : Prop := Below w.heap.size w X
def RiTo (w : World) (l : List Im) (e : Ending) (w' : World) : Prop := ∃ v, e = .returned v ∧ w'.ownsRow w.heap.size 31 3 v l.length (imsV l) ∧ Below w.heap.size w w'
set_option maxHeartbeats 1600000 in
set_option maxRecDepth 100000 in
theorem refitems_any (v v2 : Value) (raws : List ByteArray) (bases : List Int) (w : World) (h : TRow w v raws) (h2 : NRow w v2 bases) (hn1 : raws.length ≤ 1000) (hs : ∀ x ∈ raws, x.size ≤ 1000000) :
    Calls Tryz.prog 8 #[v, v2] w fun e w' => RiTo w (itms raws bases raws.length).1 e w' := by
  obtain ⟨i0, hi0, hz0, hz1, hz2⟩ := info_parts infoIr
  obtain ⟨k0, hk0, hy0, hy1, hy2⟩ := info_parts infoZ
  have HT : Hid (∀ e w', RiTo w (itms raws bases raws.length).1 e w' ↔ ∃ v, e = .returned v ∧ w'.ownsRow w.heap.size 31 3 v (itms raws bases raws.length).1.length (imsV (itms raws bases raws.length).1) ∧ Below w.heap.size w w') := hideIt (fun _ _ => Iff.rfl)
  obtain ⟨_, a, c, rfl, hlc, ⟨hcm, hnn⟩, hrow⟩ := h
  obtain ⟨_, a2, c2, rfl, hlc2, ⟨hcm2, hnn2⟩, hrow2⟩ := h2
  have HR := hideIt hrow
  have HR2 := hideIt hrow2
  have HSZ := hideIt (fun (i : Nat) (x : ByteArray) (hx : raws[i]? = some x) => hs x (List.mem_of_getElem? hx))
  have HID := hideIt (fun (s : ByteArray) w (hs : s.size ≤ 1000000) => Ob.refid_any s w (by omega))
  have HMK := hideIt refmake_c
  have HLN := hideIt (itms_len raws bases)
  obtain ⟨n, hn⟩ : ∃ n, raws.length = n := ⟨_, rfl⟩
  have HN := hideIt hn
  rw [hn] at hlc HR HT hn1 ⊢
  obtain ⟨m, hm⟩ : ∃ m, bases.length = m := ⟨_, rfl⟩
  have HM := hideIt hm
  rw [hm] at hlc2 HR2 ⊢
  have HS0 := hideIt (RM.start w raws bases)
  have nI : (n : Int) ≤ 1000 := by omega
  clear hn hm hrow hnn hcm hs hrow2 hnn2 hcm2
  go_enter Tryz.func8, Tryz.ntmps8
  go_wp2
  go_loopw [5, 6, 7] (fun t5 t6 t7 wr => ∃ i : Nat, i ≤ n ∧ t7 = .int .i64 (i : Int) ∧ RM w raws bases i t5 t6 wr) (fun _ _ t7 _ => n - (intOf t7).toNat)
  case atStart => exact ⟨0, by omega, rfl, HS0.out⟩
  case round =>
    obtain ⟨i, hi, rfl, hrm⟩ := hrel
    by_cases hlt : i < n
    · have i1 : (i : Int) < (n : Int) := by omega
      have i2 : decide ((i : Int) < (n : Int)) = true := decide_eq_true i1
      obtain ⟨b, o, rfl, hcells⟩ := HR.out (by omega)
      obtain ⟨x, hxi⟩ : ∃ x, raws[i]? = some x := ⟨raws[i]'(by rw [HN.out]; exact hlt), by simp⟩
      have c0 := (hcells.below hrm.below).2 i _ (strs_at hxi)
      have hxz := HSZ.out i x hxi
      cases hbo : bof bases i with
      | none =>
        have HST := hideIt (step_none (raws := raws) hxi (.inl hbo))
        by_cases g0 : i < m
        · obtain ⟨b2, o2, rfl, hcells2⟩ := HR2.out (by omega)
          obtain ⟨z, hz⟩ : ∃ z, bases[i]? = some z := ⟨bases[i]'(by rw [HM.out]; exact g0), by simp⟩
          have q1 : (i : Int) < (m : Int) := by omega
          have q2 : decide ((i : Int) < (m : Int)) = true := decide_eq_true q1
          have hzz : z < 0 ∨ (¬ z < 0 ∧ ¬ z < (i : Int)) := by
            unfold bof at hbo
            rw [hz] at hbo
            simp only at hbo
            by_cases g : 0 ≤ z ∧ z < (i : Int)
            · rw [if_pos g] at hbo
              cases hbo
            · omega
          have HC2 := hideIt (fun w' (hb : Below w.heap.size w w') => (hcells2.below hb).2 i _ (nums_at hz))
          rcases hzz with hz1' | ⟨hz1', hz2'⟩
          · have p1 : ¬ (0 : Int) ≤ z := by omega
            have p2 : decide ((0 : Int) ≤ z) = false := decide_eq_false p1
            have hBY : Below wr.heap.size wr (wr.alloc (.cells #[.string ⟨#[]⟩, .string x, .int .i64 0] 31)) := (Below.refl _ _).alloc (Nat.le_refl _) _
            have HRA : Hid (RM w raws bases i u5 u6 (wr.alloc (.cells #[.string ⟨#[]⟩, .string x, .int .i64 0] 31))) := hideIt (hrm.after hBY)
            have c9 := HC2.out _ (hrm.below.trans (hBY.mono hrm.below.size))
            clear hbo hrm hcells hxi hcells2 hz hz1' hBY
            go_wp2_with (first
              | (at_builtin; refine wpList_append_own _ rfl (.tmp 77) (.tmp 79) 27 rfl w.heap.size 31 i0 (.agg #[.string ⟨#[]⟩, .string ⟨#[]⟩, .int .i64 0]) 3 40 Tryz.underlying27 hi0 hz0 hz1 hz2 rfl (by decide) _ i (imsV (itms raws bases i).1) rfl (HRA.out.it.alloc _) ⟨wr.heap.size + 1, 0, none⟩ 1 1 (imV (⟨⟨#[]⟩, x, 0⟩ : Im)) rfl rfl (three_at (⟨⟨#[]⟩, x, 0⟩ : Im) _ (by simp)) (fun u hu => by simp [imV] at hu; rcases hu with rfl | rfl | rfl <;> rfl) (by unfold maxLen; omega) (by omega) (HRA.out.base _) ?_; intro v1 w1 hown1 hg1 _; have O1 := hideIt hown1; have G1 := hideIt hg1; obtain ⟨hf1, S1⟩ := HRA.out.mid hg1; have F1 := hideIt hf1; clear hf1; clear hown1 hg1)
              | (at_builtin; refine wpList_append_own _ rfl (.tmp 81) (.tmp 83) 23 rfl w.heap.size 3 k0 (.int .i64 0) 1 8 Tryz.underlying23 hk0 hy0 hy1 hy2 rfl (by decide) _ i (nums (farN raws bases i)) rfl (F1.out.alloc _) ⟨w1.heap.size, 0, none⟩ 1 1 [.int .i64 ((0 : Nat) : Int)] rfl rfl (one_new _ _) (fun u hu => by simp at hu; subst hu; rfl) (by unfold maxLen; omega) (by omega) (by simp; omega) ?_; intro v2 w2 hown2 hg2 _; have FN := hideIt (HRA.out.next HST.out O1.out G1.out hown2 hg2 (F1.out.alloc _)); clear hown2 hg2))
            go_roundw
            case rel => exact ⟨i + 1, by omega, by go_num, FN.out⟩
            case measure => simp [intOf]; omega
          · have p1 : (0 : Int) ≤ z := by omega
            have p2 : decide ((0 : Int) ≤ z) = true := decide_eq_true p1
            have p3 : decide (z < (i : Int)) = false := decide_eq_false hz2'
            have hBY : Below wr.heap.size wr (wr.alloc (.cells #[.string ⟨#[]⟩, .string x, .int .i64 0] 31)) := (Below.refl _ _).alloc (Nat.le_refl _) _
            have HRA : Hid (RM w raws bases i u5 u6 (wr.alloc (.cells #[.string ⟨#[]⟩, .string x, .int .i64 0] 31))) := hideIt (hrm.after hBY)
            have c9 := HC2.out _ (hrm.below.trans (hBY.mono hrm.below.size))
            clear hbo hrm hcells hxi hcells2 hz hz1' hBY
            go_wp2_with (first
              | (at_builtin; refine wpList_append_own _ rfl (.tmp 77) (.tmp 79) 27 rfl w.heap.size 31 i0 (.agg #[.string ⟨#[]⟩, .string ⟨#[]⟩, .int .i64 0]) 3 40 Tryz.underlying27 hi0 hz0 hz1 hz2 rfl (by decide) _ i (imsV (itms raws bases i).1) rfl (HRA.out.it.alloc _) ⟨wr.heap.size + 1, 0, none⟩ 1 1 (imV (⟨⟨#[]⟩, x, 0⟩ : Im)) rfl rfl (three_at (⟨⟨#[]⟩, x, 0⟩ : Im) _ (by simp)) (fun u hu => by simp [imV] at hu; rcases hu with rfl | rfl | rfl <;> rfl) (by unfold maxLen; omega) (by omega) (HRA.out.base _) ?_; intro v1 w1 hown1 hg1 _; have O1 := hideIt hown1; have G1 := hideIt hg1; obtain ⟨hf1, S1⟩ := HRA.out.mid hg1; have F1 := hideIt hf1; clear hf1; clear hown1 hg1)
              | (at_builtin; refine wpList_append_own _ rfl (.tmp 81) (.tmp 83) 23 rfl w.heap.size 3 k0 (.int .i64 0) 1 8 Tryz.underlying23 hk0 hy0 hy1 hy2 rfl (by decide) _ i (nums (farN raws bases i)) rfl (F1.out.alloc _) ⟨w1.heap.size, 0, none⟩ 1 1 [.int .i64 ((0 : Nat) : Int)] rfl rfl (one_new _ _) (fun u hu => by simp at hu; subst hu; rfl) (by unfold maxLen; omega) (by omega) (by simp; omega) ?_; intro v2 w2 hown2 hg2 _; have FN := hideIt (HRA.out.next HST.out O1.out G1.out hown2 hg2 (F1.out.alloc _)); clear hown2 hg2))
            go_roundw
            case rel => exact ⟨i + 1, by omega, by go_num, FN.out⟩
            case measure => simp [intOf]; omega
        · have q1 : ¬ (i : Int) < (m : Int) := by omega
          have q2 : decide ((i : Int) < (m : Int)) = false := decide_eq_false q1
          have hBY : Below wr.heap.size wr (wr.alloc (.cells #[.string ⟨#[]⟩, .string x, .int .i64 0] 31)) := (Below.refl _ _).alloc (Nat.le_refl _) _
          have HRA : Hid (RM w raws bases i u5 u6 (wr.alloc (.cells #[.string ⟨#[]⟩, .string x, .int .i64 0] 31))) := hideIt (hrm.after hBY)
          clear hbo hrm hcells hxi hBY
          go_wp2_with (first
            | (at_builtin; refine wpList_append_own _ rfl (.tmp 77) (.tmp 79) 27 rfl w.heap.size 31 i0 (.agg #[.string ⟨#[]⟩, .string ⟨#[]⟩, .int .i64 0]) 3 40 Tryz.underlying27 hi0 hz0 hz1 hz2 rfl (by decide) _ i (imsV (itms raws bases i).1) rfl (HRA.out.it.alloc _) ⟨wr.heap.size + 1, 0, none⟩ 1 1 (imV (⟨⟨#[]⟩, x, 0⟩ : Im)) rfl rfl (three_at (⟨⟨#[]⟩, x, 0⟩ : Im) _ (by simp)) (fun u hu => by simp [imV] at hu; rcases hu with rfl | rfl | rfl <;> rfl) (by unfold maxLen; omega) (by omega) (HRA.out.base _) ?_; intro v1 w1 hown1 hg1 _; have O1 := hideIt hown1; have G1 := hideIt hg1; obtain ⟨hf1, S1⟩ := HRA.out.mid hg1; have F1 := hideIt hf1; clear hf1; clear hown1 hg1)
            | (at_builtin; refine wpList_append_own _ rfl (.tmp 81) (.tmp 83) 23 rfl w.heap.size 3 k0 (.int .i64 0) 1 8 Tryz.underlying23 hk0 hy0 hy1 hy2 rfl (by decide) _ i (nums (farN raws bases i)) rfl (F1.out.alloc _) ⟨w1.heap.size, 0, none⟩ 1 1 [.int .i64 ((0 : Nat) : Int)] rfl rfl (one_new _ _) (fun u hu => by simp at hu; subst hu; rfl) (by unfold maxLen; omega) (by omega) (by simp; omega) ?_; intro v2 w2 hown2 hg2 _; have FN := hideIt (HRA.out.next HST.out O1.out G1.out hown2 hg2 (F1.out.alloc _)); clear hown2 hg2))
          go_roundw
          case rel => exact ⟨i + 1, by omega, by go_num, FN.out⟩
          case measure => simp [intOf]; omega
      | some k =>
        obtain ⟨hki, hbk⟩ := bof_lt hbo
        have him : i < m := by
          rw [← HM.out]
          exact (List.getElem?_eq_some_iff.1 hbk).1
        obtain ⟨b2, o2, rfl, hcells2⟩ := HR2.out (by omega)
        have q1 : (i : Int) < (m : Int) := by omega
        have q2 : decide ((i : Int) < (m : Int)) = true := decide_eq_true q1
        have q3 : (0 : Int) ≤ (k : Int) := by omega
        have q4 : decide ((0 : Int) ≤ (k : Int)) = true := decide_eq_true q3
        have q5 : (k : Int) < (i : Int) := by omega
        have q6 : decide ((k : Int) < (i : Int)) = true := decide_eq_true q5
        have q7 : (k : Int) < (n : Int) := by omega
        have HC2 := hideIt (fun w' (hb : Below w.heap.size w w') => (hcells2.below hb).2 i _ (nums_at hbk))
        have hfk := farN_at (raws := raws) (bases := bases) hki
        obtain ⟨_, a6, c6, e6, hl6, hm6, hr6⟩ := VRow.of_row hrm.fr
        subst e6
        obtain ⟨b6, o6, rfl, hc6⟩ := hr6 (by omega)
        obtain ⟨f, hf⟩ : ∃ f, (itms raws bases i).2.getD k 0 = f := ⟨_, rfl⟩
        rw [hf] at hfk
        have HC6 := hideIt (fun w' (hb : Below wr.heap.size wr w') => (hc6.below hb).2 k _ (nums_at hfk))
        by_cases h12 : f < 12
        · have g1 : (f : Int) < 12 := by omega
          have g2 : decide ((f : Int) < 12) = true := decide_eq_true g1
          obtain ⟨y, hy⟩ : ∃ y, raws[k]? = some y := ⟨raws[k]'(by rw [HN.out]; omega), by simp⟩
          obtain ⟨f1, hf1⟩ : ∃ f1, f + 1 = f1 := ⟨_, rfl⟩
          have f2 : (f : Int) + 1 = (f1 : Int) := by omega
          have f3 : (f1 : Int) ≤ 12 := by omega
          have hst := step_some hxi hy hbo (by rw [hf]; exact h12)
          rw [hf, hf1] at hst
          have hyz := HSZ.out k y hy
          have HI1 := hideIt (fun X => HID.out y X hyz)
          have HI2 : Hid (∀ X, Calls Tryz.prog 20 #[.string y] X fun e w' => e = .returned (.string (shaB y)) ∧ Below X.heap.size X w') := HI1
          have HM1 := hideIt (fun X => HMK.out y x X hyz hxz)
          generalize shaB y = B at HI2 hst
          generalize makeB y x = D at HM1 hst
          have HST := hideIt hst
          have hBY : Below wr.heap.size wr (wr.alloc (.cells #[.string ⟨#[]⟩, .string x, .int .i64 0] 31)) := (Below.refl _ _).alloc (Nat.le_refl _) _
          have HB0 : Hid (Below wr.heap.size wr (wr.alloc (.cells #[.string ⟨#[]⟩, .string x, .int .i64 0] 31)).drew) := hideIt hBY.drew
          have HX0 : Hid ((wr.alloc (.cells #[.string ⟨#[]⟩, .string x, .int .i64 0] 31)).drew.heap[wr.heap.size]? = some (.cells #[.string ⟨#[]⟩, .string x, .int .i64 0] 31 (0, 0))) := hideIt (alloc_at (w := wr) rfl)
          have HFA : Hid (∀ X, Below wr.heap.size wr X → X.cell? ⟨b, o + i, none⟩ = some (.string x) ∧ X.cell? ⟨b, o + k, none⟩ = some (.string y) ∧ X.cell? ⟨b2, o2 + i, none⟩ = some (.int .i64 (k : Int)) ∧ X.cell? ⟨b6, o6 + k, none⟩ = some (.int .i64 (f : Int))) := hideIt (fun X hX =>
            ⟨(hcells.below (hrm.below.trans (hX.mono hrm.below.size))).2 i _ (strs_at hxi), (hcells.below (hrm.below.trans (hX.mono hrm.below.size))).2 k _ (strs_at hy), HC2.out X (hrm.below.trans (hX.mono hrm.below.size)), HC6.out X hX⟩)
          have HXA : Hid (∀ (X : World), X.heap[wr.heap.size]? = some (.cells #[.string ⟨#[]⟩, .string x, .int .i64 0] 31 (0, 0)) → X.cell? ⟨wr.heap.size, 0, none⟩ = some (.string ⟨#[]⟩) ∧ X.cell? ⟨wr.heap.size, 1, none⟩ = some (.string x) ∧ X.cell? ⟨wr.heap.size, 2, none⟩ = some (.int .i64 0) ∧ X.frozen? ⟨wr.heap.size, 0, none⟩ = false ∧ X.frozen? ⟨wr.heap.size, 1, none⟩ = false ∧ X.frozen? ⟨wr.heap.size, 2, none⟩ = false) := hideIt (fun X hX => ⟨cellAt hX rfl, cellAt hX rfl, cellAt hX rfl, Lib.frozen_of_heap hX _, Lib.frozen_of_heap hX _, Lib.frozen_of_heap hX _⟩)
          have HFN : Hid (∀ (X : World), X.heap[wr.heap.size]? = some (.cells #[.string ⟨#[]⟩, .string x, .int .i64 0] 31 (0, 0)) → Below wr.heap.size wr X → RM w raws bases i u5 (.slice (some ⟨b6, o6, none⟩) i c6) (((X.setCell ⟨wr.heap.size, 0, none⟩ (.string B)).setCell ⟨wr.heap.size, 1, none⟩ (.string D)).setCell ⟨wr.heap.size, 2, none⟩ (.int .i64 0))) := hideIt (fun X _ hX => hrm.after (((hX.setCell (p := ⟨wr.heap.size, 0, none⟩) (Nat.le_refl _) _).setCell (p := ⟨wr.heap.size, 1, none⟩) (Nat.le_refl _) _).setCell (p := ⟨wr.heap.size, 2, none⟩) (Nat.le_refl _) _))
          have HFC : Hid (∀ (X : World), X.heap[wr.heap.size]? = some (.cells #[.string ⟨#[]⟩, .string x, .int .i64 0] 31 (0, 0)) → (((X.setCell ⟨wr.heap.size, 0, none⟩ (.string B)).setCell ⟨wr.heap.size, 1, none⟩ (.string D)).setCell ⟨wr.heap.size, 2, none⟩ (.int .i64 0)).heap[wr.heap.size]? = some (.cells #[.string B, .string D, .int .i64 0] 31 (0, 0))) := hideIt (fun X hX => by
            rw [heap_setCell_same _ wr.heap.size _ _ 31 _ (heap_setCell_same _ wr.heap.size _ _ 31 _ (heap_setCell_same _ wr.heap.size _ _ 31 _ hX))]
            rfl)
          have HFS := hideIt (fun (X : World) (hX : Below wr.heap.size wr X) => HFA.out (((X.setCell ⟨wr.heap.size, 0, none⟩ (.string B)).setCell ⟨wr.heap.size, 1, none⟩ (.string D)).setCell ⟨wr.heap.size, 2, none⟩ (.int .i64 0)) (((hX.setCell (p := ⟨wr.heap.size, 0, none⟩) (Nat.le_refl _) _).setCell (p := ⟨wr.heap.size, 1, none⟩) (Nat.le_refl _) _).setCell (p := ⟨wr.heap.size, 2, none⟩) (Nat.le_refl _) _))
          have HLS : Hid (∀ X, Bw wr X → X.cell? ⟨b, o + i, none⟩ = some (.string x) ∧ X.cell? ⟨b2, o2 + i, none⟩ = some (.int .i64 (k : Int)) ∧ X.cell? ⟨b6, o6 + k, none⟩ = some (.int .i64 (f : Int)) ∧ Bw wr X) := hideIt (fun X hX => ⟨(HFA.out X hX).1, (HFA.out X hX).2.2.1, (HFA.out X hX).2.2.2, hX⟩)
          have HSS : Hid (∀ X, Bw wr X → Bw wr (((X.setCell ⟨wr.heap.size, 0, none⟩ (.string B)).setCell ⟨wr.heap.size, 1, none⟩ (.string D)).setCell ⟨wr.heap.size, 2, none⟩ (.int .i64 0))) := hideIt (fun X hX => ((Below.setCell hX (p := ⟨wr.heap.size, 0, none⟩) (Nat.le_refl _) _).setCell (p := ⟨wr.heap.size, 1, none⟩) (Nat.le_refl _) _).setCell (p := ⟨wr.heap.size, 2, none⟩) (Nat.le_refl _) _)
          obtain ⟨r0, r1, r2, r3⟩ := HFA.out _ hBY
          obtain ⟨s0, s1, s2, s3⟩ := HFA.out _ HB0.out
          obtain ⟨s4, s5, s6, s7, s8, s9⟩ := HXA.out _ HX0.out
          clear hbo hrm hcells hxi hBY hcells2 hbk hfk hf hc6 hr6 hm6 hl6 h12 hst hy HI1 hf1 HC2 HC6
          go_wp2
          go_region_held3 (fun X => X.cell? ⟨b, o + i, none⟩ = some (.string x) ∧ X.cell? ⟨b2, o2 + i, none⟩ = some (.int .i64 (k : Int)) ∧ X.cell? ⟨b6, o6 + k, none⟩ = some (.int .i64 (f : Int)) ∧ Bw wr X) (first | exact HLS.out _ HB0.out | assumption | exact HLS.out _ (HSS.out _ BF.out) | exact HLS.out _ BF.out | exact HLS.out _ IA.out | exact HLS.out _ JA.out | go_keep) (first
            | (go_at_call 20; refine (HI2.out _).mono ?_; rintro e w4 ⟨rfl, hb4⟩; have BF := hideIt (JA.out.trans (hb4.mono JA.out.size)); have XF : Hid (w4.heap[wr.heap.size]? = some (.cells #[.string ⟨#[]⟩, .string x, .int .i64 0] 31 (0, 0))) := hideIt (by rw [hb4.block _ (block_lt JX.out), JX.out]); obtain ⟨t0, t1, t2, t3⟩ := HFA.out _ BF.out; obtain ⟨t4, t5, t6, t7, t8, t9⟩ := HXA.out _ XF.out; obtain ⟨m0, m1, m2, m3⟩ := HFS.out _ BF.out; clear hb4)
            | (go_at_call 20; refine (HI2.out _).mono ?_; rintro e w3 ⟨rfl, hb3⟩; have IA := hideIt (HB0.out.trans (hb3.mono HB0.out.size)); have IX : Hid (w3.heap[wr.heap.size]? = some (.cells #[.string ⟨#[]⟩, .string x, .int .i64 0] 31 (0, 0))) := hideIt (by rw [hb3.block _ (block_lt HX0.out), HX0.out]); obtain ⟨q0, q1, q2, q3⟩ := HFA.out _ IA.out; obtain ⟨q4, q5, q6, q7, q8, q9⟩ := HXA.out _ IX.out; clear hb3)
            | (go_at_call 21; refine (HM1.out _).mono ?_; rintro e w4 ⟨rfl, hb4⟩; have BF := hideIt (IA.out.trans (hb4.mono IA.out.size)); have XF : Hid (w4.heap[wr.heap.size]? = some (.cells #[.string ⟨#[]⟩, .string x, .int .i64 0] 31 (0, 0))) := hideIt (by rw [hb4.block _ (block_lt IX.out), IX.out]); obtain ⟨t0, t1, t2, t3⟩ := HFA.out _ BF.out; obtain ⟨t4, t5, t6, t7, t8, t9⟩ := HXA.out _ XF.out; obtain ⟨m0, m1, m2, m3⟩ := HFS.out _ BF.out; clear hb4)
            | (go_at_call 21; refine (HM1.out _).mono ?_; rintro e w3 ⟨rfl, hb3⟩; have JA := hideIt (HB0.out.trans (hb3.mono HB0.out.size)); have JX : Hid (w3.heap[wr.heap.size]? = some (.cells #[.string ⟨#[]⟩, .string x, .int .i64 0] 31 (0, 0))) := hideIt (by rw [hb3.block _ (block_lt HX0.out), HX0.out]); obtain ⟨q0, q1, q2, q3⟩ := HFA.out _ JA.out; obtain ⟨q4, q5, q6, q7, q8, q9⟩ := HXA.out _ JX.out; clear hb3))
          have FR := hideIt (HFN.out w4 XF.out BF.out)
          have hXC := HFC.out w4 XF.out
          have l0 := cellAt (i := 0) hXC rfl
          have l1 := cellAt (i := 1) hXC rfl
          have l2 := cellAt (i := 2) hXC rfl
          clear hXC
          go_wp2_with (first
            | (at_builtin; refine wpList_append_own _ rfl (.tmp 77) (.tmp 79) 27 rfl w.heap.size 31 i0 (.agg #[.string ⟨#[]⟩, .string ⟨#[]⟩, .int .i64 0]) 3 40 Tryz.underlying27 hi0 hz0 hz1 hz2 rfl (by decide) _ i (imsV (itms raws bases i).1) rfl (FR.out.it.alloc _) ⟨w4.heap.size, 0, none⟩ 1 1 (imV (⟨B, D, 0⟩ : Im)) rfl rfl (three_at (⟨B, D, 0⟩ : Im) _ (by simp)) (fun u hu => by simp [imV] at hu; rcases hu with rfl | rfl | rfl <;> rfl) (by unfold maxLen; omega) (by omega) (FR.out.base _) ?_; intro v1 w1 hown1 hg1 _; have O1 := hideIt hown1; have G1 := hideIt hg1; obtain ⟨hf1, S1⟩ := FR.out.mid hg1; have F1 := hideIt hf1; clear hf1; clear hown1 hg1)
            | (at_builtin; refine wpList_append_own _ rfl (.tmp 81) (.tmp 83) 23 rfl w.heap.size 3 k0 (.int .i64 0) 1 8 Tryz.underlying23 hk0 hy0 hy1 hy2 rfl (by decide) _ i (nums (farN raws bases i)) rfl (F1.out.alloc _) ⟨w1.heap.size, 0, none⟩ 1 1 [.int .i64 (f1 : Int)] rfl rfl (one_new _ _) (fun u hu => by simp at hu; subst hu; rfl) (by unfold maxLen; omega) (by omega) (by simp; omega) ?_; intro v2 w2 hown2 hg2 _; have FN := hideIt (FR.out.next HST.out O1.out G1.out hown2 hg2 (F1.out.alloc _)); clear hown2 hg2))
          go_roundw
          case rel => exact ⟨i + 1, by omega, by go_num, FN.out⟩
          case measure => simp [intOf]; omega
        · have HST := hideIt (step_none (raws := raws) hxi (.inr ⟨k, hbo, by rw [hf]; exact h12⟩))
          have g1 : ¬ (f : Int) < 12 := by omega
          have g2 : decide ((f : Int) < 12) = false := decide_eq_false g1
          have hBY : Below wr.heap.size wr (wr.alloc (.cells #[.string ⟨#[]⟩, .string x, .int .i64 0] 31)) := (Below.refl _ _).alloc (Nat.le_refl _) _
          have HRA : Hid (RM w raws bases i u5 (.slice (some ⟨b6, o6, none⟩) i c6) (wr.alloc (.cells #[.string ⟨#[]⟩, .string x, .int .i64 0] 31))) := hideIt (hrm.after hBY)
          have c9 := HC2.out _ (hrm.below.trans (hBY.mono hrm.below.size))
          have c8 := HC6.out _ hBY
          clear hbo hrm hcells hxi hBY hcells2 hbk hfk hf hc6 hr6 hm6 hl6 h12
          go_wp2_with (first
            | (at_builtin; refine wpList_append_own _ rfl (.tmp 77) (.tmp 79) 27 rfl w.heap.size 31 i0 (.agg #[.string ⟨#[]⟩, .string ⟨#[]⟩, .int .i64 0]) 3 40 Tryz.underlying27 hi0 hz0 hz1 hz2 rfl (by decide) _ i (imsV (itms raws bases i).1) rfl (HRA.out.it.alloc _) ⟨wr.heap.size + 1, 0, none⟩ 1 1 (imV (⟨⟨#[]⟩, x, 0⟩ : Im)) rfl rfl (three_at (⟨⟨#[]⟩, x, 0⟩ : Im) _ (by simp)) (fun u hu => by simp [imV] at hu; rcases hu with rfl | rfl | rfl <;> rfl) (by unfold maxLen; omega) (by omega) (HRA.out.base _) ?_; intro v1 w1 hown1 hg1 _; have O1 := hideIt hown1; have G1 := hideIt hg1; obtain ⟨hf1, S1⟩ := HRA.out.mid hg1; have F1 := hideIt hf1; clear hf1; clear hown1 hg1)
            | (at_builtin; refine wpList_append_own _ rfl (.tmp 81) (.tmp 83) 23 rfl w.heap.size 3 k0 (.int .i64 0) 1 8 Tryz.underlying23 hk0 hy0 hy1 hy2 rfl (by decide) _ i (nums (farN raws bases i)) rfl (F1.out.alloc _) ⟨w1.heap.size, 0, none⟩ 1 1 [.int .i64 ((0 : Nat) : Int)] rfl rfl (one_new _ _) (fun u hu => by simp at hu; subst hu; rfl) (by unfold maxLen; omega) (by omega) (by simp; omega) ?_; intro v2 w2 hown2 hg2 _; have FN := hideIt (HRA.out.next HST.out O1.out G1.out hown2 hg2 (F1.out.alloc _)); clear hown2 hg2))
          go_roundw
          case rel => exact ⟨i + 1, by omega, by go_num, FN.out⟩
          case measure => simp [intOf]; omega
    · have i2 : decide ((i : Int) < (n : Int)) = false := decide_eq_false (by omega)
      obtain rfl : i = n := by omega
      have HRM := hideIt hrm
      have hl := (HLN.out i).1
      have HF : Hid (wr.ownsRow w.heap.size 31 3 u5 (itms raws bases i).1.length (imsV (itms raws bases i).1)) := hideIt (by rw [hl]; exact hrm.it)
      clear hrm hl
      go_wp2
      go_ret
      exact (HT.out _ _).2 ⟨_, rfl, HF.out, HRM.out.below⟩
end Go.Proofs.YtdbbgpcjclmelaaGreatDoor.Ch
namespace Go.Proofs.YtdbbgpcjclmelaaGreatDoor.Ch
open Cb Go.RowKit Go.Shelf
theorem blb_size (s : ByteArray) : (blb s).size ≤ 1000 := by
  have h1 : (s.data.toList.take 150).length ≤ 150 := by simp; omega
  have h2 := Ob.nd_dec (s.data.toList.take 150).length (by omega)
  rw [blb, bs_size, Ob.rawL]
  have h3 := Ob.kw_len 1
  simp only [List.length_append, List.length_cons]
  omega
theorem blobs_sizes {most : Nat} : ∀ (l acc : List ByteArray), (∀ x ∈ acc, x.size ≤ 1000) → acc.length ≤ most → (∀ x ∈ blobs most acc l, x.size ≤ 1000) ∧ (blobs most acc l).length ≤ most
  | [], acc, h, hl => ⟨h, hl⟩
  | s :: r, acc, h, hl => by
    rw [blobs]
    split
    · exact ⟨h, hl⟩
    · split
      · exact blobs_sizes r acc h hl
      · refine blobs_sizes r (acc ++ [blb s]) (fun x hx => ?_) (by simp; omega)
        rcases List.mem_append.1 hx with hx | hx
        · exact h x hx
        · rw [List.mem_singleton.1 hx]
          exact blb_size s
set_option maxHeartbeats 1600000 in
set_option maxRecDepth 100000 in
theorem items_law (HAW : Hid (∀ w, Ob.Ok w → Calls Tryz.prog 9 #[] w fun e w' => e = .returned (.bool true) ∧ Below w.heap.size w w')) (v v2 : Value) (l : List ByteArray) (bases : List Int) (w : World) (h : TRow w v l) (h2 : NRow w v2 bases) (hk : Ob.Ok w) :
    Calls Tryz.prog 3 #[v, v2] w fun e w' => e = .returned (.bool true) ∧ Below w.heap.size w w' := by
  have HBL := hideIt (blobs_any v l 20 w h (by omega))
  obtain ⟨hsz, hln⟩ := blobs_sizes (most := 20) l [] (by simp) (by simp)
  have HOK := hideIt (fun w' (hb : Below w.heap.size w w') => hk.below hb)
  have HN2 := hideIt (fun w' (hb : Below w.heap.size w w') => h2.below hb)
  generalize blobs 20 [] l = R at HBL hsz hln
  have HIT := hideIt (fun v w' (ht : TRow w' v R) (hn : NRow w' v2 bases) (ho : Ob.Ok w') => items_any v v2 R bases w' ht hn ho (by omega) (fun x hx => by have := hsz x hx; omega))
  have HRI := hideIt (fun v w' (ht : TRow w' v R) (hn : NRow w' v2 bases) => refitems_any v v2 R bases w' ht hn (by omega) (fun x hx => by have := hsz x hx; omega))
  have hll := (itms_len R bases R.length).1
  generalize (itms R bases R.length).1 = L at HIT HRI hll
  obtain ⟨n, hn⟩ : ∃ n, L.length = n := ⟨_, rfl⟩
  have HN := hideIt hn
  have hn20 : n ≤ 20 := by omega
  have HTR : Hid (∀ (w' : World) v, w'.ownsRow w.heap.size 9 1 v R.length (strs R) → TRow w' v R) := hideIt (fun w' v h => VRow.of_row h)
  have HVR : Hid (∀ (w' : World) (B : Nat) v, w'.ownsRow B 31 3 v L.length (imsV L) → VRow 3 w' v L.length (imsV L)) := hideIt (fun w' B v h => VRow.of_row h)
  rw [hn] at HVR
  have HIA : Hid (∀ (i : Nat) (x : Im), L[i]? = some x → (imsV L)[i * 3]? = some (.string x.b) ∧ (imsV L)[i * 3 + 1]? = some (.string x.d) ∧ (imsV L)[i * 3 + 2]? = some (.int .i64 x.pl)) := hideIt (imsV_at L)
  clear hk h h2 hn hll hln hsz
  go_enter Tryz.func3, Tryz.ntmps3
  go_wp2_with (first
    | (go_at_call 6; refine HBL.out.mono ?_; rintro e w1 ⟨v1, rfl, hv1, hb1⟩; have T1 := hideIt (HTR.out _ _ hv1); have B1 := hideIt hb1; clear hv1 hb1)
    | (go_at_call 7; refine (HIT.out _ _ T1.out (HN2.out _ B1.out) (HOK.out _ B1.out)).mono ?_; rintro e w3 ⟨v3, rfl, hv3, hb3⟩; rw [HN.out] at hv3; have V3 := hideIt hv3; obtain ⟨_, a3, c3, rfl, _, _, _⟩ := id hv3; have T3 := hideIt (T1.out.below hb3); have B3 := hideIt (below2 B1.out hb3); clear hv3 hb3)
    | (go_at_call 8; refine (HRI.out _ _ T3.out (HN2.out _ B3.out)).mono ?_; rintro e w4 ⟨v4, rfl, hv4, hb4⟩; rw [HN.out] at hv4; have V4 := hideIt (HVR.out _ _ _ hv4); obtain ⟨_, a4, c4, rfl, _, _, _⟩ := id V4.out; have V5 := hideIt (V3.out.below hb4); have B4 := hideIt (below2 B3.out hb4); clear hv4 hb4)
    | (go_at_call 9; refine (HAW.out _ (HOK.out _ B4.out)).mono ?_; rintro e w5 ⟨rfl, hb5⟩; have V6 := hideIt (V4.out.below hb5); have V7 := hideIt (V5.out.below hb5); have B5 := hideIt (below2 B4.out hb5); clear hb5))
  go_loopw [8] (fun t8 wr => ∃ i : Nat, i ≤ n ∧ t8 = .int .i64 (i : Int) ∧ Below w5.heap.size w5 wr) (fun t8 _ => n - (intOf t8).toNat)
  case atStart => exact ⟨0, by omega, rfl, Below.refl _ _⟩
  case round =>
    obtain ⟨i, hi, rfl, hb⟩ := hrel
    have HB := hideIt hb
    by_cases hlt : i < n
    · have i1 : (i : Int) < (n : Int) := by omega
      have i2 : decide ((i : Int) < (n : Int)) = true := decide_eq_true i1
      obtain ⟨x, hxi⟩ : ∃ x, L[i]? = some x := ⟨L[i]'(by rw [HN.out]; exact hlt), by simp⟩
      obtain ⟨k0, k1, k2⟩ := HIA.out i x hxi
      obtain ⟨_, ax, cx, hx, hx1, hx2, hrx⟩ := V6.out.below hb
      cases hx
      obtain ⟨bx, ox, rfl, hcx⟩ := hrx (by omega)
      have c0 := hcx.2 _ _ k0
      have c1 := hcx.2 _ _ k1
      have c2 := hcx.2 _ _ k2
      obtain ⟨_, ay, cy, hy, hy1, hy2, hry⟩ := V7.out.below hb
      cases hy
      obtain ⟨by1, oy, rfl, hcy⟩ := hry (by omega)
      have d0 := hcy.2 _ _ k0
      have d1 := hcy.2 _ _ k1
      have d2 := hcy.2 _ _ k2
      rw [← Nat.add_assoc] at c1 c2 d1 d2
      clear hcx hcy hrx hry hx1 hx2 hy1 hy2 hxi hb k0 k1 k2
      go_wp2
      go_quiet (fail)
      go_wp2
      go_roundw
      case rel => exact ⟨i + 1, by omega, by go_num, below2 HB.out (below_drewN _ _)⟩
      case measure => simp [intOf]; omega
    · have i2 : decide ((i : Int) < (n : Int)) = false := decide_eq_false (by omega)
      obtain rfl : i = n := by omega
      clear hb
      go_wp2
      go_ret
      exact ⟨rfl, below2 B5.out HB.out⟩
end Go.Proofs.YtdbbgpcjclmelaaGreatDoor.Ch
namespace Go.Proofs.YtdbbgpcjclmelaaGreatDoor.Ch
open Cb Go.RowKit Go.Shelf
set_option maxHeartbeats 400000 in
set_option maxRecDepth 100000 in
theorem links_blob (b : List UInt8) (w : World) (hb : b.length ≤ 262144) (hk : Ob.Ok w) :
    Calls Tryz.prog 60 #[.string (bs (Ob.rawL 1 b))] w fun e w' => e = .returned (.tuple #[.slice none 0 0, .int .i64 0]) ∧ Below w.heap.size w w' := by
  have hl : (Ob.rawL 1 b).length ≤ 1000000 := by
    have h2 := Ob.nd_dec b.length (by omega)
    have h3 := Ob.kw_len 1
    rw [Ob.rawL]
    simp only [List.length_append, List.length_cons]
    omega
  have hs := Ob.split_any (Ob.rawL 1 b) hl w hk
  rw [Ob.opn_raw 1 (by omega) b (by omega), if_neg (by omega)] at hs
  have HS : Hid (Calls Tryz.prog 82 #[.string (bs (Ob.rawL 1 b))] w fun e w' => e = .returned (.tuple #[.int .i64 1, .string (bs b), .int .i64 0]) ∧ Below w.heap.size w w') := hideIt hs
  generalize bs (Ob.rawL 1 b) = R at HS
  generalize bs b = Bo at HS
  clear hs hl hk
  go_enter Tryz.func60, Tryz.ntmps60
  go_wp2_with (first | (go_at_call 82; refine HS.out.mono ?_; rintro e w1 ⟨rfl, hb1⟩))
  go_ret2
  exact ⟨rfl, hb1⟩
theorem links_blb (s : ByteArray) (w : World) (hk : Ob.Ok w) : Calls Tryz.prog 60 #[.string (blb s)] w fun e w' => e = .returned (.tuple #[.slice none 0 0, .int .i64 0]) ∧ Below w.heap.size w w' := links_blob _ w (by simp; omega) hk
end Go.Proofs.YtdbbgpcjclmelaaGreatDoor.Ch
namespace Go.Proofs.YtdbbgpcjclmelaaGreatDoor.Ch
open Cb Go.RowKit Go.Shelf
/-- A row of numbers of one's own. -/
def OwTo (w : World) (l : List Int) (e : Ending) (w' : World) : Prop := ∃ v, e = .returned v ∧ w'.ownsRow w.heap.size 3 1 v l.length (nums l) ∧ Below w.heap.size w w'
set_option maxHeartbeats 800000 in
set_option maxRecDepth 100000 in
theorem cloneN_any (v : Value) (m : List Int) (w : World) (h : NRow w v m) (hn : m.length ≤ 1000000) :
    Calls Tryz.prog 41 #[v] w fun e w' => OwTo w m e w' := by
  obtain ⟨i0, hi0, hz0, hz1, hz2⟩ := info_parts infoZ
  have HT : Hid (∀ e w', OwTo w m e w' ↔ ∃ v, e = .returned v ∧ w'.ownsRow w.heap.size 3 1 v m.length (nums m) ∧ Below w.heap.size w w') := hideIt (fun _ _ => Iff.rfl)
  obtain ⟨_, a, c, rfl, hlc, ⟨hcm, hnn⟩, hrow⟩ := h
  cases a with
  | none =>
    have h0 : m.length = 0 := by
      have := hnn rfl
      omega
    have HR : Hid (w.ownsRow w.heap.size 3 1 (.slice none 0 0) m.length (nums m)) := hideIt (by
      rw [List.eq_nil_of_length_eq_zero h0]
      exact ⟨rfl, .inl ⟨rfl, rfl⟩⟩)
    have hc0 := hnn rfl
    subst hc0
    rw [h0]
    have hq : (binOp BinOp.eql 23 (.slice none 0 0) (.slice none 0 0)).run Tryz.prog w = .ok (.bool true) w := by kernel_rfl
    clear hrow hnn hcm hlc h0 hn
    go_enter Tryz.func41, Tryz.ntmps41
    go_wp2
    go_ret
    exact (HT.out _ _).2 ⟨_, rfl, HR.out, Below.refl _ _⟩
  | some ad =>
    have HC : Hid (∀ j u, (nums m)[j]? = some u → (w.alloc (.cells #[] 3)).cell? (ad.add j) = some u) := hideIt (fun j u hj => by
      have hl : 0 < m.length := by
        have := (List.getElem?_eq_some_iff.1 hj).1
        rw [nums_len] at this
        omega
      obtain ⟨b, o, e, hcells⟩ := hrow hl
      cases e
      rw [Addr.add_lit]
      exact (hcells.below ((Below.refl _ _).alloc (Nat.le_refl _) _)).2 j u hj)
    have HE : Hid ((w.alloc (.cells #[] 3)).ownsRow w.heap.size 3 1 (.slice (some ⟨w.heap.size, 0, none⟩) 0 0) 0 []) := hideIt (new_empty _ 1 w 3 (Nat.le_refl _))
    have HL : Hid ((nums m).length = m.length * 1) := hideIt (by rw [nums_len, Nat.mul_one])
    have HO : Hid (∀ u ∈ nums m, u.oneCell' = true) := hideIt (fun u hu => by
      obtain ⟨x, _, rfl⟩ := List.mem_map.1 hu
      rfl)
    have HF : Hid (∀ (w' : World) v', w'.ownsRow w.heap.size 3 1 v' (0 + m.length) ([] ++ nums m) → w'.ownsRow w.heap.size 3 1 v' m.length (nums m)) := hideIt (fun w' v' h => by
      rw [Nat.zero_add] at h
      exact h)
    have HB : Hid (∀ w', (w.alloc (.cells #[] 3)).grownBy w' (Value.slice (some ⟨w.heap.size, 0, none⟩) 0 0).ownBlock → Below w.heap.size w w') := hideIt (fun w' hg => ((Below.refl _ w).alloc (Nat.le_refl _) _).grown hg (by simp) (fun k hk => by simp [Value.ownBlock] at hk; omega))
    obtain ⟨n, hnl⟩ : ∃ n, m.length = n := ⟨_, rfl⟩
    rw [hnl] at hlc HL HF HT hn ⊢
    have hq : (binOp BinOp.eql 23 (.slice (some ad) n c) (.slice none 0 0)).run Tryz.prog w = .ok (.bool false) w := Lib.run_eql_slice_nil w 23 3 (some ad) n c 0 0 Tryz.underlying23
    clear hrow hnn hcm hnl
    go_enter Tryz.func41, Tryz.ntmps41
    go_wp2_with (first | (at_builtin; refine wpList_append_own _ rfl (.tmp 5) (.tmp 6) 23 rfl w.heap.size 3 i0 (.int .i64 0) 1 8 Tryz.underlying23 hi0 hz0 hz1 hz2 rfl (by decide) _ 0 [] rfl HE.out ad n c (nums m) rfl HL.out HC.out HO.out (by unfold maxLen; omega) (by omega) (by simp) ?_; intro v1 w1 hown1 hg1 _; have G1 := hideIt (HF.out _ _ hown1); have G2 := hideIt (HB.out _ hg1); clear hown1 hg1))
    go_ret
    exact (HT.out _ _).2 ⟨_, rfl, G1.out, G2.out⟩
end Go.Proofs.YtdbbgpcjclmelaaGreatDoor.Ch
namespace Go.Proofs.YtdbbgpcjclmelaaGreatDoor.Ch
open Cb Go.RowKit Go.Shelf
theorem apply_c (b r : ByteArray) (w : World) (hb : b.size ≤ 262208) (hr : r.size ≤ 262208) : Calls Tryz.prog 76 #[.string b, .string (makeB b r), .int .i64 262208] w fun e w' => e = .returned (.tuple #[.string r, .int .i64 0]) ∧ Below w.heap.size w w' := by
  have h1 : b.data.toList.length ≤ 262208 := by rw [Array.length_toList]; exact hb
  have h2 : r.data.toList.length ≤ 262208 := by rw [Array.length_toList]; exact hr
  have hm := De.Dl.make_len b.data.toList r.data.toList (by omega) (by omega)
  have := De.apply_made b.data.toList b.data.toList r.data.toList 262208 w (by omega) (by omega) (by omega) (by omega) (by omega)
  rw [De.Dl.app_make b.data.toList r.data.toList 262208 (by omega) (by omega) (by omega), bs_data, bs_data] at this
  exact this
end Go.Proofs.YtdbbgpcjclmelaaGreatDoor.Ch
namespace Go.Proofs.YtdbbgpcjclmelaaGreatDoor.Ch
open Cb Go.RowKit Go.Shelf
theorem shaB_size (r : ByteArray) : (shaB r).size = 32 := Ob.sha_size _
theorem shaB_ne (r : ByteArray) : shaB r ≠ ⟨#[]⟩ := fun h => by
  have := shaB_size r
  rw [h] at this
  simp [ByteArray.size] at this
/-- Items of objects, each whole or made of one that stands ahead. -/
structure Fst (raws : List ByteArray) (par : Nat → Option Nat) (its : List Im) : Prop where
  len : its.length = raws.length
  lt : ∀ (i k : Nat), par i = some k → k < i
  whole : ∀ (i : Nat) (x : Im) (r : ByteArray), its[i]? = some x → raws[i]? = some r → par i = none → x.b = ⟨#[]⟩ ∧ x.d = r
  made : ∀ (i k : Nat) (x : Im) (r b : ByteArray), its[i]? = some x → raws[i]? = some r → raws[k]? = some b → par i = some k → x.b = shaB b ∧ x.d = makeB b r
  apart : ∀ (i j : Nat) (a b : ByteArray), raws[i]? = some a → raws[j]? = some b → shaB a = shaB b → i = j
/-- The numbers of the first n items that wait for a base. -/
def kidsTo (its : List Im) (key : ByteArray) (n : Nat) : List Nat := (List.range n).filter fun i => decide ((its.getD i noIm).b = key)
def kids (its : List Im) (key : ByteArray) : List Nat := kidsTo its key its.length
theorem kids_next {its : List Im} {key : ByteArray} {n : Nat} {x : Im} (h : its[n]? = some x) : kidsTo its key (n + 1) = if x.b = key then kidsTo its key n ++ [n] else kidsTo its key n := by
  have e : its.getD n noIm = x := by rw [List.getD, h]; rfl
  have e' : decide ((its.getD n noIm).b = key) = decide (x.b = key) := by rw [e]
  rw [kidsTo, List.range_succ, List.filter_append, List.filter_cons, e', List.filter_nil]
  by_cases hb : x.b = key
  · rw [if_pos hb, decide_eq_true hb]
    rfl
  · rw [if_neg hb, decide_eq_false hb]
    simp [kidsTo]
theorem kids_len (its : List Im) (key : ByteArray) (n : Nat) : (kidsTo its key n).length ≤ n := by
  have := List.length_filter_le (fun i => decide ((its.getD i noIm).b = key)) (List.range n)
  simpa [kidsTo] using this
theorem kids_nd (its : List Im) (key : ByteArray) (n : Nat) : (kidsTo its key n).Nodup := List.nodup_range.filter _
theorem kids_mem {its : List Im} {key : ByteArray} {i : Nat} : i ∈ kids its key ↔ ∃ x, its[i]? = some x ∧ x.b = key := by
  unfold kids kidsTo
  rw [List.mem_filter, List.mem_range]
  constructor
  · rintro ⟨h, e⟩
    refine ⟨its[i], by simp, ?_⟩
    have := of_decide_eq_true e
    rwa [List.getD, List.getElem?_eq_getElem h] at this
  · rintro ⟨x, hx, e⟩
    obtain ⟨h, rfl⟩ := List.getElem?_eq_some_iff.1 hx
    refine ⟨h, decide_eq_true ?_⟩
    rw [List.getD, List.getElem?_eq_getElem h]
    exact e
section
variable {raws : List ByteArray} {par : Nat → Option Nat} {its : List Im}
theorem Fst.get (h : Fst raws par its) {i : Nat} (hi : i < raws.length) : ∃ x r, its[i]? = some x ∧ raws[i]? = some r := ⟨its[i]'(by rw [h.len]; exact hi), raws[i], by simp, by simp⟩
theorem Fst.roots (h : Fst raws par its) {i : Nat} : i ∈ kids its ⟨#[]⟩ ↔ i < raws.length ∧ par i = none := by
  rw [kids_mem]
  constructor
  · rintro ⟨x, hx, e⟩
    have hi : i < raws.length := by
      rw [← h.len]
      exact (List.getElem?_eq_some_iff.1 hx).1
    refine ⟨hi, ?_⟩
    cases hp : par i with
    | none => rfl
    | some k =>
      have hk := h.lt i k hp
      obtain ⟨_, r, _, hr⟩ := h.get hi
      obtain ⟨_, b, _, hb⟩ := h.get (i := k) (by omega)
      exact absurd ((h.made i k x r b hx hr hb hp).1.symm.trans e) (shaB_ne b)
  · rintro ⟨hi, hp⟩
    obtain ⟨x, r, hx, hr⟩ := h.get hi
    exact ⟨x, hx, (h.whole i x r hx hr hp).1⟩
theorem Fst.kid (h : Fst raws par its) {i k : Nat} {b : ByteArray} (hb : raws[k]? = some b) : i ∈ kids its (shaB b) ↔ i < raws.length ∧ par i = some k := by
  rw [kids_mem]
  constructor
  · rintro ⟨x, hx, e⟩
    have hi : i < raws.length := by
      rw [← h.len]
      exact (List.getElem?_eq_some_iff.1 hx).1
    refine ⟨hi, ?_⟩
    obtain ⟨_, r, _, hr⟩ := h.get hi
    cases hp : par i with
    | none => exact absurd (e.symm.trans (h.whole i x r hx hr hp).1) (shaB_ne b)
    | some j =>
      have hj := h.lt i j hp
      obtain ⟨_, c, _, hc⟩ := h.get (i := j) (by omega)
      have e2 := (h.made i j x r c hx hr hc hp).1
      rw [h.apart j k c b hc hb (e2.symm.trans e)]
  · rintro ⟨hi, hp⟩
    obtain ⟨x, r, hx, hr⟩ := h.get hi
    exact ⟨x, hx, (h.made i k x r b hx hr hb hp).1⟩
/-- The queue: the first n of it are solved. -/
structure Qs (par : Nat → Option Nat) (N : Nat) (q : List Nat) (n : Nat) : Prop where
  nd : q.Nodup
  mem : ∀ i, i ∈ q ↔ i < N ∧ (par i = none ∨ ∃ k ∈ q.take n, par i = some k)
theorem Qs.start (h : Fst raws par its) : Qs par raws.length (kids its ⟨#[]⟩) 0 := ⟨kids_nd _ _ _, fun i => by rw [h.roots]; simp⟩
variable {N n : Nat} {q : List Nat}
theorem Qs.cap (h : Qs par N q n) : q.length ≤ N := by
  have := h.nd.length_le_of_subset (l₂ := List.range N) fun x hx => List.mem_range.2 ((h.mem x).1 hx).1
  simpa using this
theorem Qs.lt (h : Qs par N q n) {i : Nat} (hi : q[n]? = some i) : i < N := ((h.mem i).1 (List.mem_of_getElem? hi)).1
theorem take_snoc {q : List Nat} {n i : Nat} (hi : q[n]? = some i) : q.take (n + 1) = q.take n ++ [i] := by
  obtain ⟨hn, rfl⟩ := List.getElem?_eq_some_iff.1 hi
  exact List.take_succ_eq_append_getElem hn
theorem Qs.new (h : Qs par N q n) {i : Nat} (hi : q[n]? = some i) : i ∉ q.take n := by
  intro hm
  have h1 : (q.take (n + 1)).Nodup := (List.take_sublist _ _).nodup h.nd
  rw [take_snoc hi, List.nodup_append] at h1
  exact h1.2.2 i hm i (by simp) rfl
theorem Qs.base (h : Qs par N q n) {i k : Nat} (hi : q[n]? = some i) (hp : par i = some k) : k ∈ q.take n := by
  rcases ((h.mem i).1 (List.mem_of_getElem? hi)).2 with e | ⟨j, hj, e⟩
  · rw [hp] at e
    cases e
  · rw [hp] at e
    cases e
    exact hj
theorem Qs.next (h : Qs par raws.length q n) (hF : Fst raws par its) {i : Nat} {b : ByteArray} (hi : q[n]? = some i) (hb : raws[i]? = some b) : Qs par raws.length (q ++ kids its (shaB b)) (n + 1) := by
  have hn : n < q.length := (List.getElem?_eq_some_iff.1 hi).1
  have ht : (q ++ kids its (shaB b)).take (n + 1) = q.take n ++ [i] := by rw [List.take_append_of_le_length (by omega), take_snoc hi]
  refine ⟨List.nodup_append.2 ⟨h.nd, kids_nd _ _ _, fun x hx y hy e => ?_⟩, fun j => ?_⟩
  · subst e
    obtain ⟨hxl, hxp⟩ := (hF.kid hb).1 hy
    rcases ((h.mem x).1 hx).2 with e | ⟨k, hk, e⟩
    · rw [hxp] at e
      cases e
    · rw [hxp] at e
      cases e
      exact h.new hi hk
  · rw [List.mem_append, ht, h.mem j, hF.kid hb]
    constructor
    · rintro (⟨h1, h2 | ⟨k, hk, h2⟩⟩ | ⟨h1, h2⟩)
      · exact ⟨h1, .inl h2⟩
      · exact ⟨h1, .inr ⟨k, List.mem_append.2 (.inl hk), h2⟩⟩
      · exact ⟨h1, .inr ⟨i, by simp, h2⟩⟩
    · rintro ⟨h1, h2 | ⟨k, hk, h2⟩⟩
      · exact .inl ⟨h1, .inl h2⟩
      · rcases List.mem_append.1 hk with hk | hk
        · exact .inl ⟨h1, .inr ⟨k, hk, h2⟩⟩
        · rw [List.mem_singleton.1 hk] at h2
          exact .inr ⟨h1, h2⟩
theorem Qs.all (h : Qs par N q q.length) (hlt : ∀ (i k : Nat), par i = some k → k < i) : ∀ m i, i < m → i < N → i ∈ q
  | 0, i, h0, _ => by omega
  | m + 1, i, h0, hN => by
    refine (h.mem i).2 ⟨hN, ?_⟩
    cases hp : par i with
    | none => exact .inl rfl
    | some k =>
      have hk := hlt i k hp
      exact .inr ⟨k, by rw [List.take_length]; exact Qs.all h hlt m k (by omega) (by omega), rfl⟩
theorem Qs.full (h : Qs par N q q.length) (hlt : ∀ (i k : Nat), par i = some k → k < i) : q.length = N := by
  have h1 := h.cap
  have h2 := (List.nodup_range (n := N)).length_le_of_subset (l₂ := q) fun x hx => h.all hlt (x + 1) x (by omega) (List.mem_range.1 hx)
  simp at h2
  omega
end
/-- Rows that are filled place by place, k cells each. -/
def fillC (k N : Nat) (F : Nat → Nat → Value) (Z : Nat → Value) (d : List Nat) : List Value := (List.range (N * k)).map fun j => if j / k ∈ d then F (j / k) (j % k) else Z (j % k)
theorem fillC_len (k N : Nat) (F : Nat → Nat → Value) (Z : Nat → Value) (d : List Nat) : (fillC k N F Z d).length = N * k := by simp [fillC]
theorem fillC_at {k N : Nat} {F : Nat → Nat → Value} {Z : Nat → Value} {d : List Nat} {i c : Nat} (hi : i < N) (hc : c < k) : (fillC k N F Z d)[i * k + c]? = some (if i ∈ d then F i c else Z c) := by
  have h1 : i * k + c < N * k := by
    have := Nat.mul_le_mul_right k (show i + 1 ≤ N from hi)
    rw [Nat.add_mul] at this
    omega
  have h2 : (i * k + c) / k = i := by
    rw [Nat.add_comm, Nat.add_mul_div_right _ _ (by omega), Nat.div_eq_of_lt hc]
    omega
  have h3 : (i * k + c) % k = c := by rw [Nat.add_comm, Nat.add_mul_mod_self_right, Nat.mod_eq_of_lt hc]
  rw [fillC, List.getElem?_map, List.getElem?_range h1, Option.map_some, h2, h3]
theorem fill_set1 {N : Nat} {F : Nat → Nat → Value} {Z : Nat → Value} {d : List Nat} {i : Nat} (hi : i < N) : ((fillC 1 N F Z d).toArray).setIfInBounds i (F i 0) = (fillC 1 N F Z (d ++ [i])).toArray := by
  apply Array.ext_getElem?
  intro j
  rw [Array.getElem?_setIfInBounds]
  have hl := fillC_len 1 N F Z d
  rw [Nat.mul_one] at hl
  by_cases hj : j < N
  · have e1 := fillC_at (F := F) (Z := Z) (d := d) (c := 0) hj (by omega : 0 < 1)
    have e2 := fillC_at (F := F) (Z := Z) (d := d ++ [i]) (c := 0) hj (by omega : 0 < 1)
    rw [Nat.mul_one, Nat.add_zero] at e1 e2
    by_cases e : i = j
    · subst e
      rw [if_pos rfl, if_pos (by rw [List.size_toArray, hl]; exact hi), List.getElem?_toArray, e2, if_pos (by simp)]
    · rw [if_neg e, List.getElem?_toArray, List.getElem?_toArray, e1, e2]
      simp [show ¬ j = i from fun h => e h.symm]
  · rw [if_neg (by omega), List.getElem?_toArray, List.getElem?_toArray, List.getElem?_eq_none (by omega), List.getElem?_eq_none (by rw [fillC_len]; omega)]
theorem fill_set2 {N : Nat} {F : Nat → Nat → Value} {Z : Nat → Value} {d : List Nat} {i : Nat} (hi : i < N) : (((fillC 2 N F Z d).toArray).setIfInBounds (i * 2) (F i 0)).setIfInBounds (i * 2 + 1) (F i 1) = (fillC 2 N F Z (d ++ [i])).toArray := by
  apply Array.ext_getElem?
  intro j
  rw [Array.getElem?_setIfInBounds, Array.getElem?_setIfInBounds]
  have hl := fillC_len 2 N F Z d
  by_cases hj : j < N * 2
  · have hc : j % 2 < 2 := Nat.mod_lt _ (by omega)
    have hq : j / 2 < N := by omega
    have e1 := fillC_at (F := F) (Z := Z) (d := d) hq hc
    have e2 := fillC_at (F := F) (Z := Z) (d := d ++ [i]) hq hc
    rw [show j / 2 * 2 + j % 2 = j by omega] at e1 e2
    simp only [Array.size_setIfInBounds, List.size_toArray, hl, List.getElem?_toArray]
    by_cases a : i * 2 + 1 = j
    · rw [if_pos a, if_pos (by omega), e2, if_pos (by simp; right; omega), show j / 2 = i by omega, show j % 2 = 1 by omega]
    · rw [if_neg a]
      by_cases b : i * 2 = j
      · rw [if_pos b, if_pos (by omega), e2, if_pos (by simp; right; omega), show j / 2 = i by omega, show j % 2 = 0 by omega]
      · rw [if_neg b, e1, e2]
        have : ¬ j / 2 = i := by omega
        simp [this]
  · rw [if_neg (by omega), if_neg (by omega), List.getElem?_toArray, List.getElem?_toArray, List.getElem?_eq_none (by omega), List.getElem?_eq_none (by rw [fillC_len]; omega)]
theorem fill_made (z : Array Value) (N : Nat) (F : Nat → Nat → Value) : madeCells z (N * z.size) = (fillC z.size N F (fun c => z[c]!) []).toArray := by
  apply Array.ext_getElem?
  intro j
  by_cases h : j < N * z.size
  · have e : ((fillC z.size N F (fun c => z[c]!) []).toArray)[j]? = some z[j % z.size]! := by
      rw [List.getElem?_toArray, fillC, List.getElem?_map, List.getElem?_range h]
      simp
    rw [e]
    simp only [madeCells, Array.getElem?_map]
    rw [Array.getElem?_range]
    simp [h]
  · rw [Array.getElem?_eq_none (by simp [size_madeCells]; omega), Array.getElem?_eq_none (by simp [fillC_len]; omega)]
end Go.Proofs.YtdbbgpcjclmelaaGreatDoor.Ch
