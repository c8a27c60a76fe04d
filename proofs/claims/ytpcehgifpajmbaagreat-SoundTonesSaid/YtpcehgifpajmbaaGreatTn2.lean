/- Sound: the notes of a piece, sorted (inTime), and its tones (Tones), for any piece. -/
import Derived.Test.YtpcehgifpajmbaaGreatTn1
import Derived.Test.YtpcehgifpajmbaaGreatCopy
namespace Go.Proofs.YtpcehgifpajmbaaGreat
open Go Go.RowKit Go.Sort Go.Shelf Go.Lib

theorem ntC_div (L : List Nt) {j : Nat} (h : j < L.length * 5) : (ntC L)[j]? = some (encN (L.getD (j / 5) zNt))[j % 5]! := by
  have hk : j / 5 < L.length := by omega
  obtain ⟨j0, j1, j2, j3, j4⟩ := ntC_at L (j / 5) hk
  have hr : j % 5 = 0 ∨ j % 5 = 1 ∨ j % 5 = 2 ∨ j % 5 = 3 ∨ j % 5 = 4 := by omega
  rcases hr with e | e | e | e | e
  · have : j = j / 5 * 5 := by omega
    rw [e]; conv => lhs; rw [this]
    exact j0
  · have : j = j / 5 * 5 + 1 := by omega
    rw [e]; conv => lhs; rw [this]
    exact j1
  · have : j = j / 5 * 5 + 2 := by omega
    rw [e]; conv => lhs; rw [this]
    exact j2
  · have : j = j / 5 * 5 + 3 := by omega
    rw [e]; conv => lhs; rw [this]
    exact j3
  · have : j = j / 5 * 5 + 4 := by omega
    rw [e]; conv => lhs; rw [this]
    exact j4
theorem flat_nt (L : List Nt) {j : Nat} (h : j < L.length * 5) : (ntC L)[j]? = some (flatK encN 5 L.toArray)[j]! := by
  rw [ntC_div L h, get_flatK encN 5 L.toArray j (by simpa using h)]
  have hk : j / 5 < L.length := by omega
  simp [List.getD_eq_getElem?_getD, List.getElem?_eq_getElem hk, getElem!_def]

theorem run_copy_k {P : Program} (w : World) (dT sT ty elem : TypeId) (i : TypeInfo) (k b o dLen dCap : Nat) (a : Addr) (sLen sCap : Nat) (cs : List Value)
    (hu : P.underlying dT = some (.slice elem)) (hq : P.info? elem = some i) (hi : i.size = k) (hn : cs.length = Nat.min sLen dLen * k)
    (hsrc : ∀ j v, cs[j]? = some v → w.cell? (a.add j) = some v) (hc : ∀ j, j < cs.length → (w.cell? ⟨b, o + j, none⟩).isSome = true) (hf : ∀ j, j < cs.length → w.frozen? ⟨b, o + j, none⟩ = false) (h1 : ∀ v ∈ cs, v.oneCell' = true) :
    (Builtin.copy_ #[dT, sT] ty #[.slice (some ⟨b, o, none⟩) dLen dCap, .slice (some a) sLen sCap]).run P w = .ok (goInt (Nat.min sLen dLen)) (w.setCells b o cs) := by
  have hl := run_loadCells_list (P := P) w a cs hsrc
  have hst := run_storeCells_cells (P := P) b o cs 0 w (by simpa using hc) (by simpa using hf) h1
  simp [Builtin.copy_, run_underlying hu, Builtin.lenOf, Builtin.firstCells, sizeOf, typeInfo, hq, hi, ← hn, hl, hst]
theorem run_copy_zero {P : Program} (w : World) (dT sT ty elem : TypeId) (i : TypeInfo) (d a : Option Addr) (dLen dCap sLen sCap : Nat) (hu : P.underlying dT = some (.slice elem)) (hq : P.info? elem = some i) (hn : Nat.min sLen dLen = 0) :
    (Builtin.copy_ #[dT, sT] ty #[.slice d dLen dCap, .slice a sLen sCap]).run P w = .ok (goInt 0) w := by
  have hl : ∀ (x : Addr), (loadCells x 0).run P w = .ok #[] w := fun x => by simpa using run_loadCells_list (P := P) w x [] (by simp)
  cases d <;> cases a <;> simp [Builtin.copy_, run_underlying hu, Builtin.lenOf, Builtin.firstCells, sizeOf, typeInfo, hq, hn, storeCells, hl]
theorem grownBy_K {w : World} {g n : Nat} {os : Array Obj} (F : Array Value) : w.grownBy (grow (putRow id (Sort.ahead w n) g 0 F) os) (some g) := by
  refine ⟨rfl, rfl, rfl, by simp, fun k hk hne => ?_⟩
  rw [heap_grow_old _ _ (by simpa using hk)]
  have : g ≠ k := fun e => hne (by rw [e])
  simp [putRow, mapBlock, Sort.ahead, Array.getElem?_modify, this]
theorem below_setCellsT {B b : Nat} (hB : B ≤ b) : ∀ (vs : List Value) (o : Nat) (w0 w : World), RowKit.Below B w0 w → RowKit.Below B w0 (w.setCells b o vs)
  | [], _, _, _, h => h
  | _ :: r, o, w0, _, h => below_setCellsT hB r (o + 1) w0 _ (h.setCell hB _)
theorem size_setCellsT : ∀ (vs : List Value) (b o : Nat) (w : World), (w.setCells b o vs).heap.size = w.heap.size
  | [], _, _, _ => rfl
  | _ :: r, b, o, w => by rw [World.setCells, size_setCellsT r b (o + 1)]; simp

def SrtN (L : List Nt) : Prop := L.Pairwise fun a b => ltOf cfN b a = false
theorem srt_of {L : List Nt} {d' : Array Nt} (hp : PermIn 0 L.toArray.size L.toArray d') (hs : SortedIn (ltOf cfN) 0 L.toArray.size d') : d'.toList.Perm L ∧ SrtN d'.toList ∧ d'.size = L.length := by
  obtain ⟨h1, _, h3⟩ := hp
  have hsz : d'.size = L.length := by simpa using h1
  refine ⟨?_, ?_, hsz⟩
  · have e1 : d'.extract 0 L.toArray.size = d' := by rw [← h1]; simp
    have e2 : L.toArray.extract 0 L.toArray.size = L.toArray := by simp
    rw [e1, e2] at h3
    simpa using h3
  · unfold SrtN
    rw [List.pairwise_iff_getElem]
    intro i j hi hj hij
    have hi' : i < d'.size := by simpa using hi
    have hj' : j < d'.size := by simpa using hj
    have := hs i j (Nat.zero_le _) hij (by simpa [hsz] using hj')
    simpa [getElem!_def, Array.getElem?_eq_getElem hi', Array.getElem?_eq_getElem hj'] using this

set_option maxRecDepth 100000 in
set_option maxHeartbeats 4000000 in
theorem sortN_any (A : Option Addr) (n c : Nat) (g : Nat) (T : List Nt) (w : World) (hA : A = some ⟨g, 0, none⟩) (hn : n = T.length) (hH : HoldsK encN 5 w g 0 T.toArray) (hg : g < w.heap.size) (hlim : n ≤ 100000) (hnc : n ≤ c) (B : Nat) (hB : B ≤ g) (hBs : B ≤ w.heap.size) :
    Calls Tryz.prog 26 #[.slice A n c, .func (.func 27) #[] #[]] w fun e w' => e = .returned (.tuple #[]) ∧ ∃ L, L.Perm T ∧ SrtN L ∧ Sl w' w'.heap.size 5 A n c (ntC L) ∧ RowKit.Below B w w' := by
  subst hA
  have eg : ∀ args w, (callFunc 27 args).run Tryz.prog w = .ok (.enter 27 args) w := enters_of Tryz.func27 (by kernel_rfl) rfl
  have hcmp : CmpLays Tryz.prog 27 #[] encN 5 cfN g 0 T.toArray.size w := fun _ _ _ _ x y => inTime1_any x y _
  have h := Tryz.slices_SortFunc 5 (fun w => by kernel_rfl) (fun w => by kernel_rfl) encN (fun _ => rfl) (fun x v hv => by simp [encN] at hv; (repeat' (rcases hv with rfl | hv)) <;> first | rfl | (subst hv; rfl)) cfN swoN 27 #[] g 0 c T.toArray w eg hcmp hH hg (by simp; omega)
  rw [show T.toArray.size = n by simp [hn]] at h
  refine h.mono ?_
  rintro e w' ⟨rfl, d', m, os, hp, hs, rfl⟩
  have hn2 : T.toArray.size = n := by simp [hn]
  obtain ⟨h1, h2, h3⟩ := srt_of (L := T) (by rw [hn2]; exact hp) (by rw [hn2]; exact hs)
  have hh : HoldsK encN 5 (sortWorldK encN 5 w g 0 m d' os) g 0 d' := by
    unfold sortWorldK
    refine holdsK_grow _ _ _ _ _ _ _ ?_ (holdsK_putRowK _ _ _ g 0 T.toArray d' (holdsK_ahead _ _ _ _ _ _ _ hH) (by simpa using h3))
    unfold putRowK
    rw [size_putRow]
    exact hg
  refine ⟨rfl, d'.toList, h1, h2, ⟨hnc, by rw [ntC_len]; simp [h3, hn], fun _ => ⟨g, 0, rfl, ?_, fun j u hu => ?_⟩⟩, ?_⟩
  · unfold sortWorldK putRowK
    rw [size_grow, size_putRow]
    show g < w.heap.size + _
    omega
  · have hj : j < d'.toList.length * 5 := by
      have := (List.getElem?_eq_some_iff.1 hu).1
      rwa [ntC_len] at this
    rw [flat_nt _ hj] at hu
    have := (hh j (by simpa using hj)).1
    rw [this, ← hu]
    simp
  · refine RowKit.Below.grown (RowKit.Below.refl _ _) (grownBy_K (flatK encN 5 d')) hBs (fun k hk => by cases hk; exact hB)

set_option maxRecDepth 100000 in
set_option maxHeartbeats 4000000 in
theorem inTime_any (A : Option Addr) (n c : Nat) (T : List Nt) (w : World) (hA : Sl w w.heap.size 5 A n c (ntC T)) (hn : n = T.length) (hlim : n ≤ 100000) :
    Calls Tryz.prog 14 #[.slice A n c] w fun e w' => ∃ B d L, e = .returned (.slice B n d) ∧ L.Perm T ∧ SrtN L ∧ Sl w' w'.heap.size 5 B n d (ntC L) ∧ RowKit.Below w.heap.size w w' := by
  have HA : Hid (∀ w', RowKit.Below w.heap.size w w' → Sl w' w'.heap.size 5 A n c (ntC T)) := fun w' hb => hA.below hb
  have HN := Lib.hid hn
  obtain ⟨i0, ii1, ii2, ii3, ii4⟩ := info_parts (show (Tryz.prog.info? 52).map (fun i => (i.zero, i.size, i.bytes)) = some (some (.agg #[.int .i64 0, .int .i64 0, .int .i64 0, .int .i64 0, .int .i64 0]), 5, 40) by kernel_rfl)
  clear hA hn
  go_enter Tryz.func14, Tryz.ntmps14
  go_wp2_with (at_make; refine wpList_make_full _ rfl _ _ 46 rfl w.heap.size 52 i0 _ 5 Tryz.underlying46 ii1 ii2 ii3 .i64 .i64 _ _ n rfl rfl rfl rfl (by rw [ii4]; omega) (by unfold maxLen; omega) (Nat.le_refl _) ?_)
  intro w2 hown hgrow
  have hb2 : RowKit.Below w.heap.size w w2 := RowKit.Below.grown (RowKit.Below.refl _ _) hgrow (Nat.le_refl _) (fun g h => by cases h)
  obtain ⟨cur, hbk, hcs⟩ : ∃ cur, w2.heap[w.heap.size]? = some (.cells cur 52 (0, 0)) ∧ cur.size = n * 5 := by
    rcases hown.2 with ⟨h1, _⟩ | ⟨g, cap, cur, h1, _, h3, _, _, h6, _⟩
    · cases h1
    · injection h1 with e1 e2 e3
      injection e1 with e1
      injection e1 with e1
      subst e1 e3
      exact ⟨cur, h3, h6⟩
  have hg2 : w.heap.size < w2.heap.size := (Array.getElem?_eq_some_iff.1 hbk).1
  have hB2 : Blk w2 w.heap.size 52 cur := hbk
  have hcell : ∀ j, j < (ntC T).length → (w2.cell? ⟨w.heap.size, 0 + j, none⟩).isSome = true := fun j hj => by
    rw [ntC_len, ← HN.out] at hj
    rw [Nat.zero_add, hB2.cell j]
    simp
    omega
  have hone : ∀ v ∈ ntC T, v.oneCell' = true := fun v hv => by
    obtain ⟨x, _, hx⟩ := List.mem_flatMap.1 hv
    exact one5 _ _ _ _ _ v hx
  have hcp : ∀ ty, (Builtin.copy_ #[46, 46] ty #[.slice (some ⟨w.heap.size, 0, none⟩) n n, .slice A n c]).run Tryz.prog w2 = .ok (goInt n) (w2.setCells w.heap.size 0 (ntC T)) := fun ty => by
    by_cases h0 : n = 0
    · have hT : T = [] := List.length_eq_zero_iff.1 (by have := HN.out; omega)
      have h := run_copy_zero (P := Tryz.prog) w2 46 46 ty 52 i0 (some ⟨w.heap.size, 0, none⟩) A n n n c Tryz.underlying46 ii1 (by rw [h0]; rfl)
      rw [h, h0, hT]
      rfl
    · obtain ⟨b, off, rfl, _, hc⟩ := (HA.out _ hb2).2.2 (by omega)
      have h := run_copy_k (P := Tryz.prog) w2 46 46 ty 52 i0 5 w.heap.size 0 n n ⟨b, off, none⟩ n c (ntC T) Tryz.underlying46 ii1 ii3 (by rw [ntC_len, ← HN.out]; simp) (fun j v hv => by rw [Go.WideShapes.add_plain]; exact hc j v hv) hcell (fun j _ => hB2.frozen _) hone
      rw [h]
      simp
  have HH : Hid (HoldsK encN 5 (w2.setCells w.heap.size 0 (ntC T)) w.heap.size 0 T.toArray) := fun j hj => by
    rw [size_flatK] at hj
    have hj5 : j < T.length * 5 := by simpa using hj
    have hjl : j < (ntC T).length := by rw [ntC_len]; exact hj5
    refine ⟨?_, by rw [World.frozen?_setCells]; exact hB2.frozen _⟩
    rw [World.cell?_setCells_in w.heap.size (ntC T) 0 w2 hcell j hjl]
    have := flat_nt T hj5
    rw [List.getElem?_eq_getElem hjl] at this
    exact this
  have HB3 : Hid (RowKit.Below w.heap.size w (w2.setCells w.heap.size 0 (ntC T))) := below_setCellsT (Nat.le_refl _) _ _ _ _ hb2
  have HG3 : Hid (w.heap.size < (w2.setCells w.heap.size 0 (ntC T)).heap.size) := by unfold Hid; rw [size_setCellsT]; exact hg2
  clear hown hgrow hbk hcs hB2 hcell hone hb2
  have HSO := Lib.hid (sortN_any (some ⟨w.heap.size, 0, none⟩) n n w.heap.size T _ rfl HN.out HH.out HG3.out hlim (Nat.le_refl _) w.heap.size (Nat.le_refl _) (Nat.le_of_lt HG3.out))
  go_wp2_with (go_at_call 26; refine HSO.out.mono ?_; rintro e w4 ⟨rfl, L, hp, hs, hl, hb⟩)
  go_ret
  exact ⟨_, _, L, rfl, hp, hs, hl, HB3.out.trans hb⟩

/-- Tones: pitch, beginning, end. -/
def tt (x : Nt) : Int × Int × Int := (x.p, x.fm, x.to)
def tnC (M : List (Int × Int × Int)) : List Value := M.flatMap fun x => [.int .i64 x.1, .int .i64 x.2.1, .int .i64 x.2.2]
theorem tnC_len (M : List (Int × Int × Int)) : (tnC M).length = M.length * 3 := by
  induction M with
  | nil => rfl
  | cons c r ih => simp [tnC] at ih ⊢; omega
theorem tnC_snoc (M : List (Int × Int × Int)) (x : Int × Int × Int) : tnC (M ++ [x]) = tnC M ++ [.int .i64 x.1, .int .i64 x.2.1, .int .i64 x.2.2] := by simp [tnC]
theorem tnC_at : ∀ (M : List (Int × Int × Int)) (k : Nat), k < M.length → (tnC M)[k * 3]? = some (.int .i64 (M.getD k (0, 0, 0)).1) ∧ (tnC M)[k * 3 + 1]? = some (.int .i64 (M.getD k (0, 0, 0)).2.1) ∧ (tnC M)[k * 3 + 2]? = some (.int .i64 (M.getD k (0, 0, 0)).2.2)
  | c :: r, 0, _ => ⟨rfl, rfl, rfl⟩
  | c :: r, k + 1, h => by
    have := tnC_at r k (by simpa using h)
    have e : tnC (c :: r) = .int .i64 c.1 :: .int .i64 c.2.1 :: .int .i64 c.2.2 :: tnC r := rfl
    rw [e, show (k + 1) * 3 = k * 3 + 3 from by omega]
    exact this
def ltT (a b : Int × Int × Int) : Bool := decide (a.2.1 < b.2.1 ∨ (a.2.1 = b.2.1 ∧ (a.1 < b.1 ∨ (a.1 = b.1 ∧ a.2.2 < b.2.2))))
def SrtT (M : List (Int × Int × Int)) : Prop := M.Pairwise fun a b => ltT b a = false
theorem ltT_tt (x y : Nt) : ltT (tt x) (tt y) = ltOf cfN x y := by
  unfold ltT ltOf
  rw [decide_eq_decide, cfN_lt]
  rfl
theorem srtT_of {L : List Nt} (h : SrtN L) : SrtT (L.map tt) := by
  unfold SrtT
  rw [List.pairwise_map]
  exact h.imp fun {a b} hab => by rw [ltT_tt]; exact hab
theorem srtT_eq {M N : List (Int × Int × Int)} (h1 : SrtT M) (h2 : SrtT N) (hp : M.Perm N) : M = N := by
  refine List.Perm.eq_of_pairwise (le := fun a b => ltT b a = false) (fun a b _ _ h1 h2 => ?_) h1 h2 hp
  obtain ⟨a1, a2, a3⟩ := a
  obtain ⟨b1, b2, b3⟩ := b
  unfold ltT at h1 h2
  rw [decide_eq_false_iff_not] at h1 h2
  dsimp only at h1 h2
  have : a1 = b1 ∧ a2 = b2 ∧ a3 = b3 := by omega
  obtain ⟨rfl, rfl, rfl⟩ := this
  rfl
/-- A call hands back tones in order, and an error. -/
def TnPost (U : List Nt) (er : Int) (w : World) (e : Ending) (w' : World) : Prop :=
  ∃ B n d M, e = .returned (.tuple #[.slice B n d, .int .i64 er]) ∧ n = M.length ∧ M.Perm (U.map tt) ∧ SrtT M ∧ Sl w' w'.heap.size 3 B n d (tnC M) ∧ RowKit.Below w.heap.size w w'
theorem one3T (a b c : Int) : ∀ u ∈ [Value.int .i64 a, .int .i64 b, .int .i64 c], u.oneCell' = true := by
  intro u hu
  simp at hu
  rcases hu with rfl | rfl | rfl <;> rfl
theorem map_snoc {L : List Nt} {k : Nat} (h : k < L.length) : (L.map tt).take (k + 1) = (L.map tt).take k ++ [tt (L.getD k zNt)] := by
  rw [List.take_add_one]
  simp [List.getElem?_eq_getElem h]

set_option maxRecDepth 100000 in
set_option maxHeartbeats 4000000 in
theorem tones_any (A : Option Addr) (n c : Nat) (A' : Option Addr) (m c' : Nat) (A2 : Option Addr) (q cq : Nat) (C : List Cr) (S : List Int) (P : List EvP) (w : World) (hP : PcIn w A n c A' m c' A2 q cq C S P) (hnb : n ≤ 1000000) (hmb : m ≤ 1000000) (hq : q ≤ 65536) (hst : ∀ y ∈ P, y.L.length ≤ 1000000) :
    Calls Tryz.prog 6 #[pcV A n c A' m c' A2 q cq] w (TnPost (ntL C S P) (pcErr C S P) w) := by
  have HNT := Lib.hid (notes_any A n c A' m c' A2 q cq C S P _ (hP.below (ba w (pcO A n c A' m c' A2 q cq))) hnb hmb hq hst)
  unfold NtPost at HNT
  unfold TnPost
  have HLN := Lib.hid (ntL_len C S P)
  have HZ : Hid (pcErr C S P ≠ 0 → ntL C S P = []) := ntL_none
  obtain ⟨i0, ii1, ii2, ii3, ii4⟩ := info_parts (show (Tryz.prog.info? 56).map (fun i => (i.zero, i.size, i.bytes)) = some (some (.agg #[.int .i64 0, .int .i64 0, .int .i64 0]), 3, 24) by kernel_rfl)
  clear hP hst
  generalize ntL C S P = U at *
  generalize pcErr C S P = X at *
  by_cases hX : X = 0
  · subst hX
    clear HZ
    go_enter Tryz.func6, Tryz.ntmps6
    go_wp2_with (first
      | (go_at_call 11; refine HNT.out.mono ?_; rintro e w1 ⟨B, n1, d, rfl, hn1, hs1, hb1⟩; have HN1 := Lib.hid hn1; have HS1 := Lib.hid hs1; have HB1 := Lib.hid hb1; have hn1b : n1 ≤ 5600 := (by have := HLN.out; omega); clear hn1 hs1 hb1)
      | (go_at_call 14; refine (inTime_any B n1 d U _ HS1.out HN1.out (by omega)).mono ?_; rintro e w2 ⟨B2, d2, L, rfl, hp, hs, hl, hb2⟩; have HP2 := Lib.hid hp; have HSR := Lib.hid hs; have HL2 := Lib.hid hl; have HB2 := Lib.hid (bt HB1.out hb2); clear hp hs hl hb2))
    have HLL : Hid (L.length = n1) := by unfold Hid; rw [HP2.out.length_eq, HN1.out]
    go_loopw [20, 6] (fun i l wr => ∃ (k : Nat) (A3 : Option Addr) (c3 : Nat), k ≤ n1 ∧ i = .int .i64 k ∧ l = .slice A3 k c3 ∧ Hid (Own1 w2 wr 56 3 A3 k c3 (tnC ((L.map tt).take k)))) (fun i _ _ => n1 - (intOf i).toNat)
    case atStart => exact ⟨0, none, 0, by omega, rfl, rfl, Own1.start (Below.refl _ _) _ _⟩
    case round =>
      obtain ⟨k, A3, c3, hk, rfl, rfl, HO⟩ := hrel
      by_cases hlt : k < n1
      · have hkn : (k : Int) < (n1 : Int) := by omega
        have hkL : k < L.length := by have := HLL.out; omega
        obtain ⟨b, off, rfl, hb, hc⟩ := (HL2.out.below HO.out.low).2.2 (by omega)
        obtain ⟨j0, j1, j2, j3, j4⟩ := ntC_at L k hkL
        have a0 := hc _ _ j0
        have a1 := hc _ _ j1
        have a2 := hc _ _ j2
        have a3 := hc _ _ j3
        have a4 := hc _ _ j4
        rw [← Nat.add_assoc] at a1 a2 a3 a4
        have HSN := Lib.hid (map_snoc hkL)
        clear hc j0 j1 j2 j3 j4 hb hkL
        generalize L.getD k zNt = x at *
        obtain ⟨xe, xc, xp, xf, xt⟩ := x
        dsimp only at a0 a1 a2 a3 a4
        have D1 := World.news_of_block (heap_alloc_new (wr.alloc (.cells #[.int .i64 xe, .int .i64 xc, .int .i64 xp, .int .i64 xf, .int .i64 xt] 52)) (.cells #[.int .i64 xp, .int .i64 xf, .int .i64 xt] 56))
        rw [World.size_alloc] at D1
        have D := Lib.hid (And.intro D1 (one3T xp xf xt))
        clear D1
        have hml : k + 1 ≤ maxLen := Nat.le_trans (show k + 1 ≤ 100000 by omega) (by decide)
        go_wp2_with (at_builtin; go_loud (refine wpList_append_own _ rfl _ _ 31 rfl w2.heap.size 56 i0 _ 3 24 Tryz.underlying31 ii1 ii2 ii3 ii4 rfl (by decide) (.slice A3 k c3) k _ rfl ((HO.out.own.alloc _).alloc _) ⟨wr.heap.size + 1, 0, none⟩ 1 1 [.int .i64 xp, .int .i64 xf, .int .i64 xt] rfl rfl D.out.1 D.out.2 hml (by omega) (by have := HO.out.low.size; simp; omega) ?_))
        intro v' w3 hown' hgrow _
        obtain ⟨A4, c4, rfl, hO3, _⟩ := Own1.step HO.out (ba wr _) rfl hown' hgrow
        have HO4 : Hid (Own1 w2 w3 56 3 A4 (k + 1) c4 (tnC ((L.map tt).take (k + 1)))) := by
          unfold Hid
          rw [HSN.out, tnC_snoc]
          exact hO3
        clear hown' hgrow hO3 a0 a1 a2 a3 a4
        go_wp2_with (fail)
        go_roundw
        case rel => exact ⟨k + 1, A4, c4, by omega, by first | rfl | go_num, rfl, HO4.out⟩
        case measure => simp [intOf]; omega
      · obtain rfl : k = n1 := by omega
        have HF : Hid (Own1 w2 wr 56 3 A3 k c3 (tnC (L.map tt))) := by
          have h1 := HO.out
          rw [List.take_of_length_le (by rw [List.length_map]; have := HLL.out; omega)] at h1
          exact h1
        go_wp2_with (fail)
        go_ret2
        exact ⟨A3, k, c3, L.map tt, rfl, by rw [List.length_map]; exact HLL.out.symm, HP2.out.map tt, srtT_of HSR.out, HF.out.sl, bx (bt HB2.out HF.out.low)⟩
  · have hXb : (X != 0) = true := by simpa using hX
    have HUZ : Hid (U = []) := HZ.out hX
    clear hX HZ
    go_enter Tryz.func6, Tryz.ntmps6
    go_wp2_with (go_at_call 11; refine HNT.out.mono ?_; rintro e w1 ⟨B, n1, d, rfl, hn1, hs1, hb1⟩; clear hn1 hs1)
    go_ret2
    exact ⟨none, 0, 0, [], rfl, rfl, by rw [HUZ.out]; exact List.Perm.refl _, List.Pairwise.nil, Sl.none_ _ _ _, bx hb1⟩

end Go.Proofs.YtpcehgifpajmbaaGreat
