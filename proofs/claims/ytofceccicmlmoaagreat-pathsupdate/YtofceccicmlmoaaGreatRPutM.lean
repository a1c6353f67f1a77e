/-
  The document's put, at its end and where the path does not lead.
-/
import Derived.Test.YtofceccicmlmoaaGreatUndA
import Derived.Deep.RegionHeld3
import Derived.Deep.CutRange
import Derived.Deep.CutBlock
import Derived.BigQuiet
import Derived.Test.YtofceccicmlmoaaGreatFaceM
namespace Go.Proofs.YtofceccicmlmoaaGreat
open Go.RowKit Go.Shelf

/-- A row of one's own stays, and the pair that is to come lies in it. -/
theorem own_litQ (W : World) (s x : VT) (u v : Value) (hs : u.oneCell' = true) (hx : v.oneCell' = true) : SrcQ (W.alloc (.cells #[.int .i64 s.kind, .int .i64 s.num, .string s.text, u, .int .i64 x.kind, .int .i64 x.num, .string x.text, v] 87)) (some ⟨W.heap.size, 0, none⟩) 1 (encQ ((s, u), (x, v))) := by
  refine ⟨(fun h => by simp at h), rfl, fun ad e j w hj => ?_, fun z hz => ?_⟩
  · injection e with e
    subst e
    match j, hj with
    | 0, hj => (simp [encQ, encP] at hj; subst hj; simp [Addr.add])
    | 1, hj => (simp [encQ, encP] at hj; subst hj; simp [Addr.add])
    | 2, hj => (simp [encQ, encP] at hj; subst hj; simp [Addr.add])
    | 3, hj => (simp [encQ, encP] at hj; subst hj; simp [Addr.add])
    | 4, hj => (simp [encQ, encP] at hj; subst hj; simp [Addr.add])
    | 5, hj => (simp [encQ, encP] at hj; subst hj; simp [Addr.add])
    | 6, hj => (simp [encQ, encP] at hj; subst hj; simp [Addr.add])
    | 7, hj => (simp [encQ, encP] at hj; subst hj; simp [Addr.add])
    | j + 8, hj => simp [encQ, encP] at hj
  · simp [encQ, encP] at hz
    rcases hz with rfl | rfl | rfl | rfl | rfl | rfl | rfl | rfl
    · rfl
    · rfl
    · rfl
    · exact hs
    · rfl
    · rfl
    · rfl
    · exact hx

theorem SrcQ.grown {w w' : World} {ad : Addr} {m : Nat} {news : List Value} (h : SrcQ w (some ad) m news) {g : Nat} (hg : w.grownBy w' (some g)) (hne : ad.block ≠ g) : SrcQ w' (some ad) m news :=
  ⟨h.none, h.len, fun a e j u hu => by
    injection e with e
    subst e
    exact grown_cell26 hg (h.cell _ rfl j u hu) (by have e : (ad.add j).block = ad.block := (by unfold Addr.add; split <;> rfl); rw [e]; simpa using hne), h.one⟩

/-- The row and the pair that came. -/
theorem und_row {d M : Nat} {V w6 : World} {qs : List PP} {v0 : Value} {p : PP} {a6 : Option Addr} {c6 : Nat} (hown : w6.ownsRow M 87 8 (.slice a6 (qs.length + 1) c6) (qs.length + 1) (qs.flatMap encQ ++ encQ p)) (hq : SlQ 0 d V qs v0) (hb : Below V.heap.size V w6) (hp : GoodQ d w6 p) (hl : qs.length ≤ 65536) : SlQ 0 d w6 (qs ++ [p]) (.slice a6 (qs.length + 1) c6) := by
  have h1 : (qs.flatMap encQ ++ encQ p) = (qs ++ [p]).flatMap encQ := by simp
  rw [h1] at hown
  refine (SlQ.of_own (by simp) hown (fun q hq2 => ?_) (by simp; omega)).mono (Nat.zero_le _)
  rcases List.mem_append.1 hq2 with h | h
  · exact (hq.good q h).keeps hb
  · rw [List.mem_singleton.1 h]; exact hp

/-- A map's tree while it is made. -/
abbrev sixU : VT := ⟨6, 0, ⟨#[]⟩, []⟩

/-- What stands before a round of under. -/
structure UI (V2 : World) (R : List PP) (wr : World) (j : Nat) (vo : Value) : Prop where
  box : Bx wr V2.heap.size sixU vo
  own : wr.ownsRow (V2.heap.size + 1) 24 4 vo (2 * j) ((R.take j).flatMap encQ)
  below : Below V2.heap.size V2 wr

theorem own_setU {W : World} {M g : Nat} {x v : Value} {n : Nat} {xs : List Value} (h : W.ownsRow M 24 4 x n xs) (hg : g < M) : (W.setCell ⟨g, 3, none⟩ v).ownsRow M 24 4 x n xs := by
  refine ⟨h.1, ?_⟩
  rcases h.2 with hn | ⟨k, cap, cur, hv, hbs, hk, rest⟩
  · exact .inl hn
  · refine .inr ⟨k, cap, cur, hv, hbs, ?_, rest⟩
    unfold World.setCell
    simp only [Array.getElem?_modify]
    rw [if_neg (by show ¬ g = k; omega)]
    exact hk

theorem bx_put3U {W : World} {n : Nat} {t : VT} {u v : Value} (h : Bx W n t u) : Bx (W.setCell ⟨n, 3, none⟩ v) n t v := by
  have e0 := World.cell?_setCells_in n [v] 3 W (fun j hj => by
    have : j = 0 := by simp at hj; omega
    subst this
    show (W.cell? ⟨n, 3, none⟩).isSome = true
    rw [h.c3]; rfl) 0 (by simp)
  have ho : ∀ k, k < 3 → (W.setCell ⟨n, 3, none⟩ v).cell? ⟨n, k, none⟩ = W.cell? ⟨n, k, none⟩ := fun k hk => World.cell?_setCells_out n [v] 3 W ⟨n, k, none⟩ (fun _ _ => .inl hk)
  exact ⟨(ho 0 (by omega)).trans h.c0, (ho 1 (by omega)).trans h.c1, (ho 2 (by omega)).trans h.c2, by simpa [World.setCells] using e0, by simpa using h.f0, by simpa using h.f1, by simpa using h.f2, by simpa using h.f3⟩

theorem UI.step {V2 : World} {R : List PP} {wr : World} {j : Nat} {vo : Value} (h : UI V2 R wr j vo) {x : PP} (htake : R.take (j + 1) = R.take j ++ [x]) {WW w9 : World} {v' : Value} (hW : Below wr.heap.size wr WW)
    (hown : w9.ownsRow (V2.heap.size + 1) 24 4 v' (2 * j + 2) ((R.take j).flatMap encQ ++ encQ x)) (hgrow : WW.grownBy w9 vo.ownBlock) :
    UI V2 R (w9.setCell ⟨V2.heap.size, 3, none⟩ v') (j + 1) v' := by
  have hob : ∀ k, vo.ownBlock = some k → V2.heap.size + 1 ≤ k := fun k hk => (h.own.lt k hk).1
  have b1 := grown_bx26 hgrow (fun e => by have := hob _ e.symm; omega) (h.box.keeps hW)
  have hb9 : Below V2.heap.size V2 w9 := (h.below.trans (hW.mono h.below.size)).grown hgrow (by have := h.below.size; have := hW.size; omega) (fun k hk => by have := hob k hk; omega)
  refine ⟨bx_put3U b1, ?_, hb9.setCell (by simp) _⟩
  rw [htake, List.flatMap_append, show 2 * (j + 1) = 2 * j + 2 by omega]
  exact own_setU (by simpa using hown) (by omega)

/-- Keys and values side by side. -/
def kvU (qs : List PP) : List PR := qs.flatMap fun p => [p.1, p.2]

theorem kvU_flat (qs : List PP) : (kvU qs).flatMap encP = qs.flatMap encQ := by
  induction qs with
  | nil => rfl
  | cons q qs ih =>
    show encP q.1 ++ (encP q.2 ++ (kvU qs).flatMap encP) = encQ q ++ qs.flatMap encQ
    rw [ih, ← List.append_assoc]; rfl

theorem kvU_len (qs : List PP) : (kvU qs).length = 2 * qs.length := by
  induction qs with
  | nil => rfl
  | cons q qs ih => show (kvU qs).length + 1 + 1 = _; rw [ih]; simp only [List.length_cons]; omega

theorem kvU_map (qs : List PP) : (kvU qs).map (·.1) = kvT (qs.map trT) := by
  induction qs with
  | nil => rfl
  | cons q qs ih => show q.1.1 :: q.2.1 :: (kvU qs).map (·.1) = q.1.1 :: q.2.1 :: kvT (qs.map trT); rw [ih]

theorem und_lies {X : Nat → Prop} {d M : Nat} {w wr : World} {R : List PP} {v : Value} (h : wr.ownsRow M 24 4 v (2 * R.length) (R.flatMap encQ)) (hb : Below w.heap.size w wr) (hg : ∀ p ∈ R, GX X d w p) (hl : R.length ≤ 65536) (hX : ∀ b, X b → b < w.heap.size) (hB : w.heap.size + 3 < M) (q : PR) : LiesX (fun b => X b ∨ w.heap.size ≤ b) (d + 1) (wr.setCells (w.heap.size + 3) 0 (encP q)) (kvT (R.map trT)) v := by
  rw [← kvU_flat] at h
  rw [← kvU_map]
  have h1 : LiesX (fun b => X b ∨ M ≤ b) (d + 1) wr ((kvU R).map (·.1)) v := by
    refine own_liesX h (by rw [kvU_len]) (fun g hg => .inr (h.lt g hg).1) (fun p hp => ?_) (by rw [kvU_len]; omega)
    obtain ⟨q, hq, hx⟩ := List.mem_flatMap.1 hp
    have hx : p = q.1 ∨ p = q.2 := by simpa using hx
    rcases hx with rfl | rfl
    · exact ⟨((hg q hq).1.1.keeps hb).mono (fun b h => .inl h), (hg q hq).1.2⟩
    · exact ⟨((hg q hq).2.1.keeps hb).mono (fun b h => .inl h), (hg q hq).2.2⟩
  exact (LiesX.set (g := w.heap.size + 3) (fun h => by
    rcases h with h | h
    · have := hX _ h; omega
    · omega) h1).mono (fun b h => h.imp id (fun h => by omega))

set_option maxRecDepth 100000 in
set_option maxHeartbeats 16000000 in
theorem runder_any (X : Nat → Prop) (d : Nat) (hd16 : 16 ≤ d) (t s x : VT) (a ay ax : Option Addr) (c cy cx : Nat) (w : World) (hXl : ∀ b, X b → b < w.heap.size) (ht : LiesX X 16 w t.items (.slice a t.items.length c)) (hs : LiesX X 16 w s.items (.slice ay s.items.length cy)) (hx : LiesX X d w x.items (.slice ax x.items.length cx)) (hr : rightV 16 t = true) (hk : t.kind = 0 ∨ t.kind = 6) (hss : s.text.size ≤ 9223372036854775807) (hxs : x.text.size ≤ 9223372036854775807) :
    Calls Tryz.prog 41 #[.agg #[.int .i64 t.kind, .int .i64 t.num, .string t.text, .slice a t.items.length c], .agg #[.int .i64 s.kind, .int .i64 s.num, .string s.text, .slice ay s.items.length cy], .agg #[.int .i64 x.kind, .int .i64 x.num, .string x.text, .slice ax x.items.length cx]] w fun e w' => ∃ a' c', e = .returned (.agg #[.int .i64 6, .int .i64 0, .string ⟨#[]⟩, .slice a' (mapU d t s x).length c']) ∧ LiesX (fun b => X b ∨ w.heap.size ≤ b) (d + 1) w' (mapU d t s x) (.slice a' (mapU d t s x).length c') ∧ Below w.heap.size w w' := by
  have hlen : t.items.length ≤ 1024 := right_len hr
  have HT : Hid (Bx (op4 w t s x (.slice a t.items.length c) (.slice ay s.items.length cy) (.slice ax x.items.length cx)) w.heap.size t (.slice a t.items.length c)) := op4_fst _ _ _ _ _ _ _
  have HS : Hid (Bx (op4 w t s x (.slice a t.items.length c) (.slice ay s.items.length cy) (.slice ax x.items.length cx)) (w.heap.size + 1) s (.slice ay s.items.length cy)) := op4_snd _ _ _ _ _ _ _
  have HX : Hid (Bx (op4 w t s x (.slice a t.items.length c) (.slice ay s.items.length cy) (.slice ax x.items.length cx)) (w.heap.size + 2) x (.slice ax x.items.length cx)) := op4_thd _ _ _ _ _ _ _
  have HR : Hid (Bx (op4 w t s x (.slice a t.items.length c) (.slice ay s.items.length cy) (.slice ax x.items.length cx)) (w.heap.size + 3) zeroT (.slice none 0 0)) := op4_fth _ _ _ _ _ _ _
  have hb0 := op4_below w t s x (.slice a t.items.length c) (.slice ay s.items.length cy) (.slice ax x.items.length cx)
  obtain ⟨W0, hW0⟩ : ∃ W0, W0 = op4 w t s x (.slice a t.items.length c) (.slice ay s.items.length cy) (.slice ax x.items.length cx) := ⟨_, rfl⟩
  have HW0 : Hid (W0 = op4 w t s x (.slice a t.items.length c) (.slice ay s.items.length cy) (.slice ax x.items.length cx)) := hW0
  have hsz : W0.heap.size = w.heap.size + 4 := by rw [hW0]; exact op4_size _ _ _ _ _ _ _
  rw [← hW0] at HT HS HX HR hb0
  clear hW0
  unfold op4 at HW0
  have HPo : Hid (Calls Tryz.prog 63 #[.agg #[.int .i64 t.kind, .int .i64 t.num, .string t.text, .slice a t.items.length c]] W0 fun e w' => ∃ v, e = .returned v ∧ ∃ qs, SlQ W0.heap.size d w' qs v ∧ qs.map trT = unkv t.items ∧ (∀ p ∈ qs, GX X d w p) ∧ Below W0.heap.size W0 w') := rpairsX X d t _ w W0 (ht.atLeast (d + 1) (by omega)) hb0 hlen
  have HGX : Hid (GX X d w ((s, Value.slice ay s.items.length cy), (x, Value.slice ax x.items.length cx))) := ⟨⟨hs.atLeast d hd16, hss⟩, ⟨hx, hxs⟩⟩
  have HXl : Hid (∀ b, X b → b < w.heap.size) := hXl
  have HGp : Hid (∀ W, Below w.heap.size w W → GoodQ d W ((s, Value.slice ay s.items.length cy), (x, Value.slice ax x.items.length cx))) := fun W hW => HGX.out.good hW
  have H0 : Hid (¬ t.kind = 6 → unkv t.items = []) := fun h => by rw [leaf_items hr (by omega) (by omega) h]; rfl
  have HUl : Hid ((unkv t.items).length ≤ 1024) := by
    have : ∀ l : List VT, (unkv l).length ≤ l.length := by
      intro l
      induction l using unkv.induct with
      | case1 x y l ih => show (unkv l).length + 1 ≤ _; simp only [List.length_cons]; omega
      | case2 m hm =>
        match m, hm with
        | [], _ => exact Nat.le_refl _
        | [_], _ => exact Nat.zero_le _
        | x :: y :: l, hm => exact absurd rfl (hm x y l)
    have := this t.items
    show _ ≤ _
    omega
  have HKy : Hid (∀ (l : List PP) (v : Value) (W : World), SlQ 0 d W l v → l.length ≤ 65536 → Calls Tryz.prog 64 #[v] W fun e w' => ∃ v', e = .returned v' ∧ SlQ 0 d w' (kyd (cmpQ d) (l.length + 1) l) v' ∧ Below W.heap.size W w') := fun l v W h1 h2 => rKeyed_any d l v W h1 h2
  have HFin : Hid (∀ qs : List PP, qs.map trT = unkv t.items → kvT ((kyd (cmpQ d) ((qs ++ [((s, Value.slice ay s.items.length cy), (x, Value.slice ax x.items.length cx))]).length + 1) (qs ++ [((s, Value.slice ay s.items.length cy), (x, Value.slice ax x.items.length cx))])).map trT) = mapU d t s x) := fun qs h => by
    unfold mapU
    rw [← h, ← kyd_map trT (cmpQ d) (cmpTP d) (fun _ _ => rfl), List.map_append, ← List.length_map (f := trT), List.map_append]
    rfl
  have hbN : w.heap.size + 3 < W0.heap.size := by omega
  obtain ⟨t0, t1, t2, t3, _, _, _, _⟩ := HT.out
  clear ht hs hx hr hss hxs hlen HT
  go_enter Tryz.func41, Tryz.ntmps41
  go_upto_region 1 with fail
  rw [← HW0.out]
  clear HW0
  go_upto_if 12 with fail
  go_cut [7] from 10 to 14 (fun s7 wx => ∃ (qs : List PP) (a1 : Option Addr) (c1 : Nat), s7 = .slice a1 qs.length c1 ∧ Hid (SlQ 0 d wx qs (.slice a1 qs.length c1)) ∧ Hid (qs.map trT = unkv t.items) ∧ Hid (∀ p ∈ qs, GX X d w p) ∧ Hid (Below W0.heap.size W0 wx))
  case first =>
    by_cases h6 : t.kind = 6
    · have h6' : (t.kind == 6) = true := by simpa using h6
      clear h6
      go_wp2_with fail
      refine Calls.mono HPo.out ?_
      rintro e w1 ⟨v1, rfl, qs, hq, hqm, hqg, hb1⟩
      obtain ⟨a1, c1, rfl, _⟩ := hq.slice
      have HQ : Hid (SlQ 0 d w1 qs (.slice a1 qs.length c1)) := hq.mono (Nat.zero_le _)
      have HQm : Hid (qs.map trT = unkv t.items) := hqm
      have HQg : Hid (∀ p ∈ qs, GX X d w p) := hqg
      clear hq hqm hqg
      go_wp2_with fail
      go_meet
      case rel => exact ⟨qs, a1, c1, rfl, HQ, HQm, HQg, hb1⟩
    · have h6' : (t.kind == 6) = false := by simpa using h6
      have H6 : Hid (¬ t.kind = 6) := h6
      clear h6
      go_wp2_with fail
      go_meet
      case rel => exact ⟨[], none, 0, rfl, ⟨none, 0, rfl, by simp, by simp, (fun h => absurd rfl h), (fun p hp => by cases hp)⟩, (by show _ = _; rw [H0.out H6.out]; rfl), (fun p hp => by cases hp), Below.refl _ _⟩
  case rest =>
    obtain ⟨qs, a1, c1, rfl, HQ, HQm, HQg, HB1⟩ := hcut
    generalize hV : wc = V at *
    clear hV
    have HS1 : Hid (Bx V (w.heap.size + 1) s (.slice ay s.items.length cy)) := HS.out.keeps HB1.out
    have HX1 : Hid (Bx V (w.heap.size + 2) x (.slice ax x.items.length cx)) := HX.out.keeps HB1.out
    have HR1 : Hid (Bx V (w.heap.size + 3) zeroT (.slice none 0 0)) := HR.out.keeps HB1.out
    have hbV : Below w.heap.size w V := hb0.trans (HB1.out.mono hb0.size)
    have hql : qs.length ≤ 1024 := by
      have e := congrArg List.length HQm.out
      rw [List.length_map] at e
      rw [e]
      exact HUl.out
    have HFq : Hid _ := HFin.out qs HQm.out
    have hsV : w.heap.size + 3 < V.heap.size := by have := HB1.out.size; omega
    have HKq : Hid (∀ (v : Value) (W : World), SlQ 0 d W (qs ++ [((s, Value.slice ay s.items.length cy), (x, Value.slice ax x.items.length cx))]) v → Calls Tryz.prog 64 #[v] W fun e w' => ∃ (R : List PP) (a7 : Option Addr) (c7 : Nat), e = .returned (.slice a7 R.length c7) ∧ SlQ 0 d w' R (.slice a7 R.length c7) ∧ (kvT (R.map trT) = mapU d t s x ∧ ∀ p ∈ R, GX X d w p) ∧ R.length ≤ 2048 ∧ Below W.heap.size W w') := fun v W h => by
      refine Calls.mono (HKy.out (qs ++ [((s, Value.slice ay s.items.length cy), (x, Value.slice ax x.items.length cx))]) v W h (by rw [List.length_append]; show qs.length + 1 ≤ 65536; omega)) ?_
      rintro e w7 ⟨v7, rfl, hs7, hb7⟩
      obtain ⟨a7, c7, rfl, _⟩ := hs7.slice
      refine ⟨_, a7, c7, rfl, hs7, ⟨HFq.out, fun p hp => ?_⟩, ?_, hb7⟩
      · have := kyd_mem _ _ _ p hp
        rcases List.mem_append.1 this with h | h
        · exact HQg.out p h
        · rw [List.mem_singleton.1 h]; exact HGX.out
      have := kyd_len (cmpQ d) ((qs ++ [((s, Value.slice ay s.items.length cy), (x, Value.slice ax x.items.length cx))]).length + 1) (qs ++ [((s, Value.slice ay s.items.length cy), (x, Value.slice ax x.items.length cx))])
      rw [List.length_append] at this
      simp only [List.length_cons, List.length_nil] at this
      rw [List.length_append]
      simp only [List.length_cons, List.length_nil]
      omega
    clear HKy HFq t0 t1 t2 t3 HS HX HR HPo H0 HUl HFin hb0 HB1 HQm hbN hsz
    go_upto_region 4 with fail
    go_cut [7] from 15 to 23 (fun s7 wx => ∃ (R : List PP) (a2 : Option Addr) (c2 : Nat), s7 = .slice a2 R.length c2 ∧ Hid (SlQ 0 d wx R (.slice a2 R.length c2)) ∧ Hid (kvT (R.map trT) = mapU d t s x ∧ ∀ p ∈ R, GX X d w p) ∧ Hid (R.length ≤ 2048) ∧ Hid (Below V.heap.size V wx))
    case first =>
      obtain ⟨s0, s1, s2, s3, _, _, _, _⟩ := HS1.out
      obtain ⟨x0, x1, x2, x3, _, _, _, _⟩ := HX1.out
      have HSr : Hid (∀ W, Below V.heap.size V W → SrcQ W a1 qs.length (qs.flatMap encQ)) := fun W hW => (HQ.out.srcQ).keeps hW
      have HoA : Hid ((V.drew.alloc (.cells #[] 87)).ownsRow V.heap.size 87 8 (.slice (some ⟨V.heap.size, 0, none⟩) 0 0) 0 []) := World.ownsRow_lit V.drew #[] 0 (Nat.le_refl _) (by unfold maxLen; omega) rfl
      have HoC : Hid (((V.drew.alloc (.cells #[] 87)).alloc (.cells #[.int .i64 s.kind, .int .i64 s.num, .string s.text, .slice ay s.items.length cy, .int .i64 x.kind, .int .i64 x.num, .string x.text, .slice ax x.items.length cx] 87)).ownsRow V.heap.size 87 8 (.slice (some ⟨V.heap.size, 0, none⟩) 0 0) 0 []) := HoA.out.alloc _
      have HoB : Hid (((V.drew.alloc (.cells #[.int .i64 s.kind, .int .i64 s.num, .string s.text, .slice ay s.items.length cy, .int .i64 x.kind, .int .i64 x.num, .string x.text, .slice ax x.items.length cx] 87)).alloc (.cells #[] 87)).ownsRow V.heap.size 87 8 (.slice (some ⟨V.heap.size + 1, 0, none⟩) 0 0) 0 []) := by
        have h := World.ownsRow_lit (base := V.heap.size) (e := 87) (size := 8) (V.drew.alloc (.cells #[.int .i64 s.kind, .int .i64 s.num, .string s.text, .slice ay s.items.length cy, .int .i64 x.kind, .int .i64 x.num, .string x.text, .slice ax x.items.length cx] 87)) #[] 0 (by rw [World.size_alloc]; exact Nat.le_succ _) (by unfold maxLen; omega) rfl
        rw [World.size_alloc] at h
        exact h
      have HBA : Hid (Below V.heap.size V (V.drew.alloc (.cells #[] 87))) := ((Below.refl V.heap.size V).drew).alloc (Nat.le_refl _) _
      have HBB : Hid (Below V.heap.size V ((V.drew.alloc (.cells #[.int .i64 s.kind, .int .i64 s.num, .string s.text, .slice ay s.items.length cy, .int .i64 x.kind, .int .i64 x.num, .string x.text, .slice ax x.items.length cx] 87)).alloc (.cells #[] 87))) := (((Below.refl V.heap.size V).drew).alloc (Nat.le_refl _) _).alloc (by rw [World.size_alloc]; exact Nat.le_succ _) _
      have HBC : Hid (Below V.heap.size V ((V.drew.alloc (.cells #[] 87)).alloc (.cells #[.int .i64 s.kind, .int .i64 s.num, .string s.text, .slice ay s.items.length cy, .int .i64 x.kind, .int .i64 x.num, .string x.text, .slice ax x.items.length cx] 87))) := (((Below.refl V.heap.size V).drew).alloc (Nat.le_refl _) _).alloc (by rw [World.size_alloc]; exact Nat.le_succ _) _
      have HSpB : Hid (∀ w5, ((V.drew.alloc (.cells #[.int .i64 s.kind, .int .i64 s.num, .string s.text, .slice ay s.items.length cy, .int .i64 x.kind, .int .i64 x.num, .string x.text, .slice ax x.items.length cx] 87)).alloc (.cells #[] 87)).grownBy w5 (some (V.heap.size + 1)) → SrcQ w5 (some ⟨V.heap.size, 0, none⟩) 1 (encQ ((s, Value.slice ay s.items.length cy), (x, Value.slice ax x.items.length cx)))) := fun w5 h => by
        have h1 := (own_litQ V.drew s x (.slice ay s.items.length cy) (.slice ax x.items.length cx) rfl rfl).keeps ((Grew.refl _).alloc (.cells #[] 87)).below
        exact h1.grown h (by show V.heap.size ≠ V.heap.size + 1; omega)
      have HSpC : Hid (∀ w5, ((V.drew.alloc (.cells #[] 87)).alloc (.cells #[.int .i64 s.kind, .int .i64 s.num, .string s.text, .slice ay s.items.length cy, .int .i64 x.kind, .int .i64 x.num, .string x.text, .slice ax x.items.length cx] 87)).grownBy w5 (some V.heap.size) → SrcQ w5 (some ⟨V.heap.size + 1, 0, none⟩) 1 (encQ ((s, Value.slice ay s.items.length cy), (x, Value.slice ax x.items.length cx)))) := fun w5 h => by
        have h1 := own_litQ (V.drew.alloc (.cells #[] 87)) s x (.slice ay s.items.length cy) (.slice ax x.items.length cx) rfl rfl
        rw [World.size_alloc] at h1
        exact h1.grown h (by show V.heap.size + 1 ≠ V.heap.size; omega)
      go_region_held3 (fun w' => (w'.cell? ⟨w.heap.size + 1, 0, none⟩ = some (.int .i64 s.kind) ∧ w'.cell? ⟨w.heap.size + 1, 1, none⟩ = some (.int .i64 s.num) ∧ w'.cell? ⟨w.heap.size + 1, 2, none⟩ = some (.string s.text) ∧ w'.cell? ⟨w.heap.size + 1, 3, none⟩ = some (.slice ay s.items.length cy)) ∧ (w'.cell? ⟨w.heap.size + 2, 0, none⟩ = some (.int .i64 x.kind) ∧ w'.cell? ⟨w.heap.size + 2, 1, none⟩ = some (.int .i64 x.num) ∧ w'.cell? ⟨w.heap.size + 2, 2, none⟩ = some (.string x.text) ∧ w'.cell? ⟨w.heap.size + 2, 3, none⟩ = some (.slice ax x.items.length cx))) (go_keep)
        (first | (refine stepQ_append rfl (.tmp 15) (.tmp 16) rfl (base := V.heap.size) (n := 0) (xs := []) rfl HoA.out rfl (HSr.out _ HBA.out) (by omega) (HBA.out.size) qs.length (Nat.zero_add _) (qs.flatMap encQ) rfl ?_; intro a5 c5 w5 hown5 hg5; have hb5 : Below V.heap.size V w5 := own_growM (M := V.heap.size) (HBA.out) (HBA.out.size) (HoA.out) hg5; obtain ⟨s0, s1, s2, s3, _, _, _, _⟩ := HS1.out.keeps hb5; obtain ⟨x0, x1, x2, x3, _, _, _, _⟩ := HX1.out.keeps hb5; have HOw : Hid (∀ o, (w5.alloc o).ownsRow V.heap.size 87 8 (.slice a5 qs.length c5) qs.length (qs.flatMap encQ)) := fun o => hown5.alloc o; have HSp : Hid (SrcQ (w5.alloc (.cells #[.int .i64 s.kind, .int .i64 s.num, .string s.text, .slice ay s.items.length cy, .int .i64 x.kind, .int .i64 x.num, .string x.text, .slice ax x.items.length cx] 87)) (some ⟨w5.heap.size, 0, none⟩) 1 (encQ ((s, Value.slice ay s.items.length cy), (x, Value.slice ax x.items.length cx)))) := own_litQ w5 s x _ _ rfl rfl; have HBp : Hid (Below V.heap.size V (w5.alloc (.cells #[.int .i64 s.kind, .int .i64 s.num, .string s.text, .slice ay s.items.length cy, .int .i64 x.kind, .int .i64 x.num, .string x.text, .slice ax x.items.length cx] 87))) := hb5.alloc hb5.size _; clear hown5 hg5) | (refine stepQ_append rfl (.tmp 15) (.tmp 16) rfl (base := V.heap.size) (n := 0) (xs := []) rfl HoB.out rfl (HSr.out _ HBB.out) (by omega) (HBB.out.size) qs.length (Nat.zero_add _) (qs.flatMap encQ) rfl ?_; intro a5 c5 w5 hown5 hg5; have hb5 : Below V.heap.size V w5 := own_growM (M := V.heap.size) (HBB.out) (HBB.out.size) (HoB.out) hg5; obtain ⟨s0, s1, s2, s3, _, _, _, _⟩ := HS1.out.keeps hb5; obtain ⟨x0, x1, x2, x3, _, _, _, _⟩ := HX1.out.keeps hb5; have HOw : Hid (w5.ownsRow V.heap.size 87 8 (.slice a5 qs.length c5) qs.length (qs.flatMap encQ)) := hown5; have HSp : Hid (SrcQ w5 (some ⟨V.heap.size, 0, none⟩) 1 (encQ ((s, Value.slice ay s.items.length cy), (x, Value.slice ax x.items.length cx)))) := HSpB.out w5 hg5; have HBp : Hid (Below V.heap.size V w5) := hb5; clear hown5 hg5) | (refine stepQ_append rfl (.tmp 15) (.tmp 16) rfl (base := V.heap.size) (n := 0) (xs := []) rfl HoC.out rfl (HSr.out _ HBC.out) (by omega) (HBC.out.size) qs.length (Nat.zero_add _) (qs.flatMap encQ) rfl ?_; intro a5 c5 w5 hown5 hg5; have hb5 : Below V.heap.size V w5 := own_growM (M := V.heap.size) (HBC.out) (HBC.out.size) (HoC.out) hg5; obtain ⟨s0, s1, s2, s3, _, _, _, _⟩ := HS1.out.keeps hb5; obtain ⟨x0, x1, x2, x3, _, _, _, _⟩ := HX1.out.keeps hb5; have HOw : Hid (w5.ownsRow V.heap.size 87 8 (.slice a5 qs.length c5) qs.length (qs.flatMap encQ)) := hown5; have HSp : Hid (SrcQ w5 (some ⟨V.heap.size + 1, 0, none⟩) 1 (encQ ((s, Value.slice ay s.items.length cy), (x, Value.slice ax x.items.length cx)))) := HSpC.out w5 hg5; have HBp : Hid (Below V.heap.size V w5) := hb5; clear hown5 hg5) | (refine stepQ_append rfl (.tmp 17) (.tmp 21) rfl (base := V.heap.size) (n := qs.length) (xs := qs.flatMap encQ) rfl (HOw.out _) rfl HSp.out (by omega) (HBp.out.size) (qs.length + 1) rfl (qs.flatMap encQ ++ encQ ((s, Value.slice ay s.items.length cy), (x, Value.slice ax x.items.length cx))) rfl ?_; intro a6 c6 w6 hown6 hg6; have hb6 : Below V.heap.size V w6 := own_growM (M := V.heap.size) HBp.out HBp.out.size (HOw.out _) hg6; have HK6 : Hid (SlQ 0 d w6 (qs ++ [((s, Value.slice ay s.items.length cy), (x, Value.slice ax x.items.length cx))]) (.slice a6 (qs.length + 1) c6)) := und_row hown6 HQ.out hb6 (HGp.out _ (hbV.trans (hb6.mono hbV.size))) (by omega); obtain ⟨s0, s1, s2, s3, _, _, _, _⟩ := HS1.out.keeps hb6; obtain ⟨x0, x1, x2, x3, _, _, _, _⟩ := HX1.out.keeps hb6; clear hown6 hg6) | (refine stepQ_append rfl (.tmp 17) (.tmp 21) rfl (base := V.heap.size) (n := qs.length) (xs := qs.flatMap encQ) rfl HOw.out rfl HSp.out (by omega) (HBp.out.size) (qs.length + 1) rfl (qs.flatMap encQ ++ encQ ((s, Value.slice ay s.items.length cy), (x, Value.slice ax x.items.length cx))) rfl ?_; intro a6 c6 w6 hown6 hg6; have hb6 : Below V.heap.size V w6 := own_growM (M := V.heap.size) HBp.out HBp.out.size HOw.out hg6; have HK6 : Hid (SlQ 0 d w6 (qs ++ [((s, Value.slice ay s.items.length cy), (x, Value.slice ax x.items.length cx))]) (.slice a6 (qs.length + 1) c6)) := und_row hown6 HQ.out hb6 (HGp.out _ (hbV.trans (hb6.mono hbV.size))) (by omega); obtain ⟨s0, s1, s2, s3, _, _, _, _⟩ := HS1.out.keeps hb6; obtain ⟨x0, x1, x2, x3, _, _, _, _⟩ := HX1.out.keeps hb6; clear hown6 hg6) | (go_at_call 64; (with_reducible refine Calls.mono (HKq.out _ _ (by first | exact HK6.out | exact HK6.out.keeps (Below.refl _ _).drew)) ?_); rintro e w7 ⟨R7, a7, c7, rfl, hs7, hk7, hl7, hb7⟩; have HR7 : Hid (SlQ 0 d w7 R7 (.slice a7 R7.length c7) ∧ (kvT (R7.map trT) = mapU d t s x ∧ ∀ p ∈ R7, GX X d w p) ∧ R7.length ≤ 2048) := ⟨hs7, hk7, hl7⟩; have hb8 : Below V.heap.size V w7 := hb6.trans (Below.mono (by first | exact hb7 | exact (Below.refl _ _).drew.trans hb7) hb6.size); obtain ⟨s0, s1, s2, s3, _, _, _, _⟩ := HS1.out.keeps hb8; obtain ⟨x0, x1, x2, x3, _, _, _, _⟩ := HX1.out.keeps hb8; clear hs7 hk7 hl7 hb7))
      all_goals clear s0 s1 s2 s3 x0 x1 x2 x3
      all_goals go_wp2_with fail
      all_goals go_meet
      all_goals exact ⟨R7, a7, c7, rfl, HR7.out.1, HR7.out.2.1, HR7.out.2.2, hb8⟩
    case rest =>
      obtain ⟨R, a2, c2, rfl, HR, HKv, HRl, HB2⟩ := hcut
      generalize hV2 : wc = V2 at *
      clear hV2
      have HRz : Hid (Bx V2 (w.heap.size + 3) zeroT (.slice none 0 0)) := HR1.out.keeps HB2.out
      have hbV2 : Below w.heap.size w V2 := hbV.trans (HB2.out.mono hbV.size)
      have hsV2 : w.heap.size + 3 < V2.heap.size := by have := HB2.out.size; omega
      have HGd : Hid (∀ p ∈ R, GoodQ d V2 p) := HR.out.good
      have HGR : Hid (∀ p ∈ R, GX X d w p) := HKv.out.2
      clear HS1 HX1 HR1 HKq HGp HB2 hbV hsV HQ HQg HGX
      obtain ⟨i0, hi, hz0, hz1, hz2⟩ := info24
      have Hi : Hid _ := hi; have Hz0 : Hid _ := hz0; have Hz1 : Hid _ := hz1; have Hz2 : Hid _ := hz2
      clear hi hz0 hz1 hz2
      have HM0 : Hid (UI V2 R (V2.alloc (.cells #[.int .i64 6, .int .i64 0, .string ⟨#[]⟩, .slice none 0 0] 24)) 0 (.slice none 0 0)) := ⟨bx_alloc V2 sixU (.slice none 0 0), (by simp; exact World.ownsRow_nil _ _ _ _), ((Grew.refl V2).alloc _).below⟩
      have hrl : R.length ≤ 2048 := HRl.out
      generalize hLL : R.length = L at *
      have HLL : Hid (R.length = L) := hLL
      clear hLL HRl
      go_wp2_with fail
      go_loopg [9] L (fun z vj wr => ∃ (j : Nat) (vo : Value), vj = .int .i64 (j : Int) ∧ z = L - j ∧ j ≤ L ∧ Hid (UI V2 R wr j vo))
      case atStart => exact ⟨0, _, rfl, rfl, Nat.zero_le _, HM0⟩
      case round =>
        obtain ⟨j, vo, rfl, hk, hjL, HM⟩ := hrel
        have Hk : Hid _ := hk
        clear hk HM0
        have hbw : Below V2.heap.size V2 wr := HM.out.below
        have hwl : V2.heap.size < wr.heap.size := cell_lt HM.out.box.c0
        obtain ⟨av, cv, hvs, _⟩ := own_slice26 HM.out.own
        subst hvs
        by_cases hjl : j < L
        · have hji : (j : Int) < (L : Nat) := by omega
          have hjR : j < R.length := by have := HLL.out; omega
          have hg0 := HR.out
          rw [← HLL.out] at hg0
          obtain ⟨b1, o1, c1', hv1, _, hq, _⟩ := hg0.full (fun e => by rw [e] at hjR; cases hjR)
          have ha1 : a2 = some ⟨b1, o1, none⟩ := by injection hv1
          subst ha1
          obtain ⟨p, hpe⟩ : ∃ p, p = R[j] := ⟨_, rfl⟩
          have Gx : GoodQ d V2 p := HGd.out p (by rw [hpe]; exact List.getElem_mem hjR)
          have Ex := hq.at j hjR
          rw [← hpe] at Ex
          have Htk : Hid (R.take (j + 1) = R.take j ++ [p]) := by show _ = _; rw [hpe]; exact (List.take_append_getElem hjR).symm
          obtain ⟨⟨t1, tv1⟩, ⟨t2, tv2⟩⟩ := p
          obtain ⟨ta, tc, et1, _⟩ := Lies.slice Gx.1.1
          obtain ⟨tb, td, et2, _⟩ := Lies.slice Gx.2.1
          simp only at et1 et2
          subst et1 et2
          obtain ⟨p0, p1, p2, p3, p4, p5, p6, p7⟩ := Ex.keeps hbw
          simp only at p0 p1 p2 p3 p4 p5 p6 p7
          have hgb : b1 < V2.heap.size := cell_lt Ex.1
          have hgr : b1 < wr.heap.size := by omega
          have hnb : ¬ (b1 = wr.heap.size) := by omega
          have hnw : ¬ (V2.heap.size = wr.heap.size) := by omega
          obtain ⟨y0, y1, y2, y3, z0, z1, z2, z3⟩ := HM.out.box
          have Hob : Hid (∀ k, (Value.slice av (2 * j) cv).ownBlock = some k → V2.heap.size + 1 ≤ k) := fun k hk => (HM.out.own.lt k hk).1
          clear Ex hpe Gx hq hv1 hjR hg0
          go_wp2_with fail
          go_region_law (first | (refine step_append_lies _ rfl _ _ 22 rfl (V2.heap.size + 1) 24 i0 (.agg #[.int .i64 0, .int .i64 0, .string ⟨#[]⟩, .slice none 0 0]) 4 56 Tryz.underlying22 Hi.out Hz0.out Hz1.out Hz2.out rfl (by decide) (.slice av (2 * j) cv) (2 * j) ((R.take j).flatMap encQ) rfl (by first | exact HM.out.own.alloc _ | exact (HM.out.own.alloc _).drew | exact HM.out.own.drew.alloc _) ⟨wr.heap.size, 0, none⟩ 2 2 [.int .i64 t1.kind, .int .i64 t1.num, .string t1.text, .slice ta t1.items.length tc, .int .i64 t2.kind, .int .i64 t2.num, .string t2.text, .slice tb t2.items.length td] rfl rfl (fun q u hq => by match q, hq with | 0, hq => (simp at hq; subst hq; simp [Addr.add]) | 1, hq => (simp at hq; subst hq; simp [Addr.add]) | 2, hq => (simp at hq; subst hq; simp [Addr.add]) | 3, hq => (simp at hq; subst hq; simp [Addr.add]) | 4, hq => (simp at hq; subst hq; simp [Addr.add]) | 5, hq => (simp at hq; subst hq; simp [Addr.add]) | 6, hq => (simp at hq; subst hq; simp [Addr.add]) | 7, hq => (simp at hq; subst hq; simp [Addr.add]) | q + 8, hq => simp at hq) (fun u hu => by simp at hu; rcases hu with rfl | rfl | rfl | rfl | rfl | rfl | rfl | rfl <;> rfl) (by decide) (by unfold maxLen; omega) (by omega) (by simp; omega) _ rfl ?_; intro g cap w7 hown7 hg7 hat7 hlt7; have hW7 : Below wr.heap.size wr (wr.drew.alloc (.cells #[.int .i64 t1.kind, .int .i64 t1.num, .string t1.text, .slice ta t1.items.length tc, .int .i64 t2.kind, .int .i64 t2.num, .string t2.text, .slice tb t2.items.length td] 24)) := (by first | exact ((Below.refl _ _).drew).alloc (Nat.le_refl _) _ ); have HB7 : Bx w7 V2.heap.size sixU (.slice av (2 * j) cv) := (grown_bx26 hg7 (fun e => by have := Hob.out _ e.symm; omega) (HM.out.box.keeps hW7)); have HU7 : Hid (UI V2 R (w7.setCell ⟨V2.heap.size, 3, none⟩ (.slice (some ⟨g, 0, none⟩) (2 * j + 2) cap)) (j + 1) (.slice (some ⟨g, 0, none⟩) (2 * j + 2) cap)) := HM.out.step Htk.out hW7 hown7 hg7; obtain ⟨y0, y1, y2, y3, z0, z1, z2, z3⟩ := HB7; clear hown7 hg7 hat7 hlt7 hW7))
          all_goals clear y0 y1 y2 y3 z0 z1 z2 z3 p0 p1 p2 p3 p4 p5 p6 p7 HM
          all_goals go_wp2_with fail
          all_goals go_roundg (L - (j + 1))
          all_goals first | (have := Hk.out; omega) | exact ⟨j + 1, _, by go_num, rfl, by omega, HU7⟩
        · obtain rfl : j = L := by omega
          have hji : ¬ (j : Int) < (j : Nat) := by omega
          have HOwn : Hid (wr.ownsRow (V2.heap.size + 1) 24 4 (.slice av (2 * j) cv) (2 * R.length) (R.flatMap encQ)) := by
            have h1 := HM.out.own
            rw [List.take_of_length_le (by have := HLL.out; omega)] at h1
            show World.ownsRow _ _ _ _ _ _ _
            rw [HLL.out]
            exact h1
          have hlm : (mapU d t s x).length = 2 * j := by rw [← HKv.out.1, kvT_len, List.length_map, HLL.out]
          have HRe : Hid (Bx wr (w.heap.size + 3) zeroT (.slice none 0 0)) := HRz.out.keeps hbw
          have hbf : Below w.heap.size w wr := hbV2.trans (hbw.mono hbV2.size)
          have HE : Hid (∃ a' c', (Value.agg #[.int .i64 6, .int .i64 0, .string ⟨#[]⟩, .slice av (2 * j) cv]) = .agg #[.int .i64 6, .int .i64 0, .string ⟨#[]⟩, .slice a' (mapU d t s x).length c'] ∧ LiesX (fun b => X b ∨ w.heap.size ≤ b) (d + 1) (wr.setCells (w.heap.size + 3) 0 (encP (sixU, .slice av (2 * j) cv))) (mapU d t s x) (.slice a' (mapU d t s x).length c') ∧ Below w.heap.size w (wr.setCells (w.heap.size + 3) 0 (encP (sixU, .slice av (2 * j) cv)))) := by
            refine ⟨av, cv, by rw [hlm], ?_, below_put hbf (by omega) _⟩
            rw [hlm, ← HKv.out.1]
            exact und_lies HOwn.out hbf HGR.out (by have := HLL.out; omega) HXl.out (by omega) _
          have Hq : Hid (Bx (wr.setCells (w.heap.size + 3) 0 (encP (sixU, .slice av (2 * j) cv))) (w.heap.size + 3) sixU (.slice av (2 * j) cv)) := HRe.out.put (sixU, .slice av (2 * j) cv)
          obtain ⟨x0, x1, x2, x3, _, _, _, _⟩ := HM.out.box
          obtain ⟨r0, r1, r2, r3, g0, g1, g2, g3⟩ := HRe.out
          clear HM HRe HOwn hlm
          go_wp2_with fail
          refine bodyPost_ret (v := .agg #[.int .i64 6, .int .i64 0, .string ⟨#[]⟩, .slice av (2 * j) cv]) ?_ rfl (by obtain ⟨a', c', e1, e2, e3⟩ := HE.out; exact ⟨a', c', by rw [e1], e2, e3⟩)
          obtain ⟨q0, q1, q2, q3, _, _, _, _⟩ := Hq.out
          simp only [World.setCells, encP, Nat.zero_add, Nat.reduceAdd] at q0 q1 q2 q3
          simp [results, Tryz.results41, go_sem, q0, q1, q2, q3]

end Go.Proofs.YtofceccicmlmoaaGreat

namespace Go.Proofs.YtofceccicmlmoaaGreat
open Go.RowKit Go.Shelf

theorem keysOf_mem : ∀ (l : List VT) (k : VT), k ∈ keysOf l → k ∈ l
  | [], _, h => by cases h
  | [_], _, h => by cases h
  | a :: b :: r, k, h => by
    rcases List.mem_cons.1 h with rfl | h
    · exact List.mem_cons_self
    · exact List.mem_cons_of_mem _ (List.mem_cons_of_mem _ (keysOf_mem r k h))

theorem idx_plc {t s : VT} (h : idxB t s = true) : plcB t s = true := by
  obtain ⟨_, _, _, h1, _⟩ := idx_fact h
  exact h1

/-- The part that put goes on with. -/
theorem part_open {t s t2 y : VT} {i : Nat} (ho : opnT t s = some (t2, i)) (hy : (plcB t s = true ∧ t.items[(plcI t s).toNat]? = some y) ∨ (plcB t s = false ∧ y = zeroT)) : t2.items[i]? = some y := by
  unfold opnT at ho
  by_cases h0 : t.kind = 0 ∨ t.kind = 6
  · rw [if_pos h0] at ho
    injection ho with ho
    injection ho with e1 e2
    subst e1
    subst e2
    have eB : plcB t s = hasN s (keysOf t.items) := by unfold plcB; rw [if_pos h0]
    have eI : (plcI t s).toNat = 2 * upN s (keysOf t.items) + 1 := by unfold plcI; rw [if_pos h0]; rfl
    rw [eB, eI] at hy
    show (keyed s t.items)[_]? = _
    unfold keyed
    rcases hy with ⟨h1, h2⟩ | ⟨h1, h2⟩
    · rw [if_pos h1]; exact h2
    · rw [if_neg (by rw [h1]; simp), h2]
      have hle := upN_le s (keysOf t.items)
      rw [keysOf_len] at hle
      have hl : (t.items.take (2 * upN s (keysOf t.items))).length = 2 * upN s (keysOf t.items) := by rw [List.length_take]; omega
      rw [List.getElem?_append_right (by omega), hl]
      simp only [Nat.add_sub_cancel_left]
      rfl
  · rw [if_neg h0] at ho
    by_cases h4 : t.kind = 4
    · rw [if_pos h4] at ho
      have eB : plcB t s = (s.kind == 2 && (decide (0 ≤ s.num) && decide (s.num < (t.items.length : Int)))) := by unfold plcB; rw [if_neg h0, if_pos h4]
      have eI : plcI t s = s.num := by unfold plcI; rw [if_neg h0, if_pos h4]
      by_cases he : s.kind = 2 ∧ s.num = (t.items.length : Int)
      · rw [if_pos he] at ho
        injection ho with ho
        injection ho with e1 e2
        subst e1
        subst e2
        rcases hy with ⟨h1, h2⟩ | ⟨h1, h2⟩
        · rw [eB] at h1
          simp only [Bool.and_eq_true, decide_eq_true_eq] at h1
          omega
        · rw [h2]
          show (t.items ++ [nilT])[t.items.length]? = _
          rw [List.getElem?_append_right (Nat.le_refl _), Nat.sub_self]
          rfl
      · rw [if_neg he] at ho
        by_cases hb : plcB t s = true
        · rw [if_pos hb] at ho
          injection ho with ho
          injection ho with e1 e2
          subst e1
          subst e2
          rcases hy with ⟨h1, h2⟩ | ⟨h1, h2⟩
          · rw [eI] at h2; exact h2
          · rw [h1] at hb; cases hb
        · rw [if_neg hb] at ho; cases ho
    · rw [if_neg h4] at ho; cases ho

theorem put_step {t s t2 y x : VT} {r : List VT} {i : Nat} (ho : opnT t s = some (t2, i)) (hy : t2.items[i]? = some y) : putT t (s :: r) x = match putT y r x with | none => none | some z => some (t2.putI i z) := by
  conv => lhs; unfold putT
  rw [ho]
  simp only [hy]
  rfl

/-- A map, a list or nothing: no number, no text. -/
theorem bare_right {t : VT} (hr : rightV 16 t = true) (hk : t.kind = 0 ∨ t.kind = 4 ∨ t.kind = 6) : t.num = 0 ∧ t.text = ⟨#[]⟩ := by
  have ho : ownV 15 t = true := (rp_succ (d := 15) (right_rp hr)).2
  exact ⟨(own_facts ho).2.2.1 (by omega) (by omega), (right_text ho).2.2 (by omega)⟩

/-- What under makes is what put makes of a map. -/
theorem und_put {d : Nat} (hd16 : 16 ≤ d) {t s z : VT} (hr : rightV 16 t = true) (hd : Dp 16 t) (hs : rightV 16 s = true) (hds : Dp 16 s) (hk : t.kind = 0 ∨ t.kind = 6) : mapU d t s z = (keyed s t.items).set (2 * upN s (keysOf t.items) + 1) z := by
  have hg : ∀ k ∈ keysOf t.items, rightV 16 k = true ∧ Dp 16 k := fun k hk => item_right hr hd (keysOf_mem _ _ hk)
  have hc : ∀ a ∈ keysOf t.items, ∀ b ∈ keysOf t.items, cmpV d a b = cmpV 16 a b := fun a ha b hb => cmpV_eq a b (hg a ha).2 (hg b hb).2 hd16
  unfold mapU
  rw [kyd_ins (cmp3K d) _ _ _ (by omega) (unkv_rises d t.items hc (right_up hr hd hk))]
  exact kvT_ins d s z t.items (right_even t hd hr hk) (fun k hk => cmpV_eq k s (hg k hk).2 hds hd16) (fun k hk h => good_eq ⟨(hg k hk).1, (hg k hk).2⟩ ⟨hs, hds⟩ h)

/-- What the document's put tells. -/
def RPutQ (X : Nat → Prop) (t : VT) (p : List VT) (x : VT) (w : World) (e : Ending) (w' : World) : Prop :=
  ∃ (z : VT) (a : Option Addr) (c : Nat) (b : Bool), e = .returned (.tuple #[.agg #[.int .i64 z.kind, .int .i64 z.num, .string z.text, .slice a z.items.length c], .bool b]) ∧ LiesX (fun b => X b ∨ w.heap.size ≤ b) (16 + p.length) w' z.items (.slice a z.items.length c) ∧ z.text.size ≤ 9223372036854775807 ∧ ((b = true ∧ putT t p x = some z) ∨ (b = false ∧ putT t p x = none ∧ z = zeroT)) ∧ Below w.heap.size w w'

def RPutC (r : List VT) (x : VT) : Prop := ∀ (X : Nat → Prop) (t : VT) (a ax : Option Addr) (c cx : Nat) (pv : Value) (w : World), (∀ b, X b → b < w.heap.size) → LiesX X 16 w t.items (.slice a t.items.length c) → rightV 16 t = true → LiesX X 17 w r pv → LiesX X 16 w x.items (.slice ax x.items.length cx) → Calls Tryz.prog 20 #[.agg #[.int .i64 t.kind, .int .i64 t.num, .string t.text, .slice a t.items.length c], pv, .agg #[.int .i64 x.kind, .int .i64 x.num, .string x.text, .slice ax x.items.length cx]] w (RPutQ X t r x w)

theorem rput_none {X : Nat → Prop} {t x : VT} {p : List VT} {w w' : World} (h : putT t p x = none) (hb : Below w.heap.size w w') : RPutQ X t p x w (.returned (.tuple #[.agg #[.int .i64 0, .int .i64 0, .string ⟨#[]⟩, .slice none 0 0], .bool false])) w' :=
  ⟨zeroT, none, 0, false, rfl, liesX_nil _ _ _ _ _, by decide, .inr ⟨rfl, h, rfl⟩, hb⟩

end Go.Proofs.YtofceccicmlmoaaGreat

namespace Go.Proofs.YtofceccicmlmoaaGreat
open Go.RowKit Go.Shelf

set_option maxRecDepth 100000 in
set_option maxHeartbeats 8000000 in
theorem rput_nil (X : Nat → Prop) (t x : VT) (a ax pa : Option Addr) (c cx pc lt : Nat) (w : World) (hXl : ∀ b, X b → b < w.heap.size) (hx : LiesX X 16 w x.items (.slice ax x.items.length cx)) (hxt : x.text.size ≤ 9223372036854775807) :
    Calls Tryz.prog 20 #[.agg #[.int .i64 t.kind, .int .i64 t.num, .string t.text, .slice a lt c], .slice pa 0 pc, .agg #[.int .i64 x.kind, .int .i64 x.num, .string x.text, .slice ax x.items.length cx]] w (RPutQ X t [] x w) := by
  have HX : Hid (Bx (op3 w t x (.slice a lt c) (.slice ax x.items.length cx)) (w.heap.size + 1) x (.slice ax x.items.length cx)) := op3_snd _ _ _ _ _
  have HR : Hid (Bx (op3 w t x (.slice a lt c) (.slice ax x.items.length cx)) (w.heap.size + 2) zeroT (.slice none 0 0)) := op3_thd _ _ _ _ _
  have hb0 := op3_below w t x (.slice a lt c) (.slice ax x.items.length cx)
  obtain ⟨W0, hW0⟩ : ∃ W0, W0 = op3 w t x (.slice a lt c) (.slice ax x.items.length cx) := ⟨_, rfl⟩
  have HW0 : Hid (W0 = op3 w t x (.slice a lt c) (.slice ax x.items.length cx)) := hW0
  rw [← hW0] at HX HR hb0
  clear hW0
  unfold op3 at HW0
  have HE : Hid (RPutQ X t [] x w (.returned (.tuple #[.agg #[.int .i64 x.kind, .int .i64 x.num, .string x.text, .slice ax x.items.length cx], .bool true])) (W0.setCells (w.heap.size + 2) 0 (encP (x, .slice ax x.items.length cx)))) :=
    ⟨x, ax, cx, true, rfl, LiesX.mono (fun b hb => .inl hb) (LiesX.set (g := w.heap.size + 2) (fun hb => by have := hXl _ hb; omega) (hx.keeps hb0)), hxt, .inl ⟨rfl, rfl⟩, below_put hb0 (by omega) _⟩
  have Hq : Hid (Bx (W0.setCells (w.heap.size + 2) 0 (encP (x, .slice ax x.items.length cx))) (w.heap.size + 2) x (.slice ax x.items.length cx)) := HR.out.put (x, .slice ax x.items.length cx)
  obtain ⟨x0, x1, x2, x3, _, _, _, _⟩ := HX.out
  obtain ⟨z0, z1, z2, z3, g0, g1, g2, g3⟩ := HR.out
  clear hx hxt hb0 HX HR
  generalize RPutQ X t [] x w = PP at *
  generalize x.items.length = lx at *
  go_enter Tryz.func20, Tryz.ntmps20
  go_upto_region 1 with fail
  rw [← HW0.out]
  clear HW0
  go_wp2_with fail
  refine bodyPost_ret (v := .tuple #[.agg #[.int .i64 x.kind, .int .i64 x.num, .string x.text, .slice ax lx cx], .bool true]) ?_ rfl HE.out
  obtain ⟨q0, q1, q2, q3, _, _, _, _⟩ := Hq.out
  simp only [World.setCells, encP, Nat.zero_add, Nat.reduceAdd] at q0 q1 q2 q3
  simp [results, Tryz.results20, go_sem, q0, q1, q2, q3]

set_option maxRecDepth 100000 in
set_option maxHeartbeats 8000000 in
/-- The path does not lead there. -/
theorem rput_off (s x : VT) (r : List VT) (X : Nat → Prop) (t : VT) (a ax : Option Addr) (c cx : Nat) (pv : Value) (w : World) (_hX : ∀ b, X b → b < w.heap.size) (h : LiesX X 16 w t.items (.slice a t.items.length c)) (hr : rightV 16 t = true) (hp : LiesX X 17 w (s :: r) pv) (_hsr : rightV 16 s = true) (hn : r.length ≤ 16) (ho : opnT t s = none) :
    Calls Tryz.prog 20 #[.agg #[.int .i64 t.kind, .int .i64 t.num, .string t.text, .slice a t.items.length c], pv, .agg #[.int .i64 x.kind, .int .i64 x.num, .string x.text, .slice ax x.items.length cx]] w (RPutQ X t (s :: r) x w) := by
  have hlen : t.items.length ≤ 1024 := right_len hr
  have hd := Dp.of_lies 16 w t _ h.lies
  obtain ⟨pa, pc, rfl, _⟩ := LiesX.slice hp
  have hp2 := hp
  obtain ⟨a0, c0, hv, hpl, hrow⟩ := hp2
  injection hv with e1 e2 e3
  subst e1
  subst e3
  clear e2
  obtain ⟨pb, po, rfl, hXp, hall⟩ := hrow (by simp)
  obtain ⟨sv, p0, p1, p2, p3, p4, p5⟩ := hall 0 (by simp)
  simp only [List.getElem_cons_zero, Nat.zero_mul, Nat.add_zero] at p0 p1 p2 p3 p4 p5
  obtain ⟨sa, sc, rfl, _⟩ := LiesX.slice p4
  have hsl : LiesX X 16 w s.items (.slice sa s.items.length sc) := p4.atLeast 16 (by omega)
  have hds : Dp 16 s := Dp.of_lies 16 w s _ hsl.lies
  have HT : Hid (Bx (op3 w t x (.slice a t.items.length c) (.slice ax x.items.length cx)) w.heap.size t (.slice a t.items.length c)) := op3_fst _ _ _ _ _
  have HX : Hid (Bx (op3 w t x (.slice a t.items.length c) (.slice ax x.items.length cx)) (w.heap.size + 1) x (.slice ax x.items.length cx)) := op3_snd _ _ _ _ _
  have HR : Hid (Bx (op3 w t x (.slice a t.items.length c) (.slice ax x.items.length cx)) (w.heap.size + 2) zeroT (.slice none 0 0)) := op3_thd _ _ _ _ _
  have hb0 := op3_below w t x (.slice a t.items.length c) (.slice ax x.items.length cx)
  obtain ⟨W0, hW0⟩ : ∃ W0, W0 = op3 w t x (.slice a t.items.length c) (.slice ax x.items.length cx) := ⟨_, rfl⟩
  have HW0 : Hid (W0 = op3 w t x (.slice a t.items.length c) (.slice ax x.items.length cx)) := hW0
  have hsz : W0.heap.size = w.heap.size + 3 := by rw [hW0]; exact op3_size _ _ _ _ _
  rw [← hW0] at HT HX HR hb0
  clear hW0
  unfold op3 at HW0
  have p0 := cell_keeps hb0 p0; have p1 := cell_keeps hb0 p1; have p2 := cell_keeps hb0 p2; have p3 := cell_keeps hb0 p3
  obtain ⟨W1, hW1⟩ : ∃ W1, W1 = W0.alloc (.cells #[.int .i64 s.kind, .int .i64 s.num, .string s.text, .slice sa s.items.length sc] 24) := ⟨_, rfl⟩
  have hb01 : Below W0.heap.size W0 W1 := by rw [hW1]; exact ((Grew.refl W0).alloc _).below
  have hb1 : Below w.heap.size w W1 := hb0.trans (hb01.mono hb0.size)
  have HS1 : Hid (Bx W1 (w.heap.size + 3) s (.slice sa s.items.length sc)) := by
    rw [hW1, ← hsz]
    exact bx_alloc W0 s _
  have HT1 : Hid (Bx W1 w.heap.size t (.slice a t.items.length c)) := HT.out.keeps hb01
  have HX1 : Hid (Bx W1 (w.heap.size + 1) x (.slice ax x.items.length cx)) := HX.out.keeps hb01
  have HR1 : Hid (Bx W1 (w.heap.size + 2) zeroT (.slice none 0 0)) := HR.out.keeps hb01
  have hsz1 : W1.heap.size = w.heap.size + 4 := by rw [hW1, World.size_alloc, hsz]
  have HW1 : Hid (W0.alloc (.cells #[.int .i64 s.kind, .int .i64 s.num, .string s.text, .slice sa s.items.length sc] 24) = W1) := hW1.symm
  clear hW1 hb01 HT HX HR hall hrow p4
  have HI : Hid (∀ W, Calls Tryz.prog 40 #[.agg #[.int .i64 t.kind, .int .i64 t.num, .string t.text, .slice a t.items.length c], .agg #[.int .i64 s.kind, .int .i64 s.num, .string s.text, .slice sa s.items.length sc]] W fun e w' => e = .returned (.tuple #[.int .i64 (if idxB t s = true then s.num else 0), .bool (idxB t s)]) ∧ Below W.heap.size W w') := fun W => rindex_any t s a sa c _ sc W
  have HPt : Hid (∀ W, Below w.heap.size w W → Calls Tryz.prog 39 #[.agg #[.int .i64 t.kind, .int .i64 t.num, .string t.text, .slice a t.items.length c], .agg #[.int .i64 s.kind, .int .i64 s.num, .string s.text, .slice sa s.items.length sc]] W (PartP X t s W)) := fun W hW => rpart_any X t s a sa c sc W (h.keeps hW) ((hsl.keeps hW).lies) hr
  have hput : putT t (s :: r) x = none := by unfold putT; rw [ho]
  have HNo : Hid (∀ W, Below w.heap.size w W → RPutQ X t (s :: r) x w (.returned (.tuple #[.agg #[.int .i64 0, .int .i64 0, .string ⟨#[]⟩, .slice none 0 0], .bool false])) W) := fun W hW => rput_none hput hW
  have hk0 : ¬ t.kind = 0 := fun h0 => by unfold opnT at ho; rw [if_pos (.inl h0)] at ho; cases ho
  have hk6 : ¬ t.kind = 6 := fun h0 => by unfold opnT at ho; rw [if_pos (.inr h0)] at ho; cases ho
  have hnE : t.kind = 4 → ¬ (s.kind = 2 ∧ s.num = (t.items.length : Int)) := fun h4 he => by unfold opnT at ho; rw [if_neg (by omega), if_pos h4, if_pos he] at ho; cases ho
  have hIf : idxB t s = false := by
    cases hI : idxB t s
    · rfl
    · exfalso
      obtain ⟨J, e1, e2, e3, e4⟩ := idx_fact hI
      have h4 : t.kind = 4 := by unfold idxB at hI; simp only [Bool.and_eq_true, beq_iff_eq] at hI; exact hI.1
      unfold opnT at ho
      rw [if_neg (by omega), if_pos h4, if_neg (hnE h4), if_pos e3] at ho
      cases ho
  rw [hIf] at HI
  have hL : (s :: r).length = r.length + 1 := rfl
  rw [hL]
  clear hL
  clear HPt h hr hp hsl hput hd hIf hds p5 ho
  generalize RPutQ X t (s :: r) x w = PP at *
  obtain ⟨t0, t1, t2, t3, _, _, _, _⟩ := HT1.out
  obtain ⟨s0, s1, s2, s3, _, _, _, _⟩ := HS1.out
  go_enter Tryz.func20, Tryz.ntmps20
  go_upto_region 1 with fail
  rw [← HW0.out]
  clear HW0
  go_upto_region 4 with fail
  rw [HW1.out]
  clear HW1
  have k0 : (t.kind != 0) = true := by simpa using hk0
  have k6 : (t.kind != 6) = true := by simpa using hk6
  by_cases h4 : t.kind = 4
  · have k4 : (t.kind == 4) = true := by simpa using h4
    have hne := hnE h4
    clear h4 hk0 hk6 hnE
    by_cases hs2 : s.kind = 2
    · have hsn : (s.num == (t.items.length : Int)) = false := by
        have : ¬ s.num = (t.items.length : Int) := fun e => hne ⟨hs2, e⟩
        simpa using this
      have j2 : (s.kind == 2) = true := by simpa using hs2
      clear hs2 hne
      go_wp2_with fail
      refine Calls.mono (HI.out _) ?_
      rintro e w1 ⟨rfl, hg1⟩
      have hb2 : Below w.heap.size w w1 := hb1.trans (hg1.mono hb1.size)
      have HR2 : Hid (Bx w1 (w.heap.size + 2) zeroT (.slice none 0 0)) := HR1.out.keeps hg1
      replace t0 := cell_keeps hg1 t0
      clear hg1 hb1 HR1 HI s0 s1 s2 s3 t1 t2 t3 p0 p1 p2 p3
      have HE1 : Hid (PP (.returned (.tuple #[.agg #[.int .i64 0, .int .i64 0, .string ⟨#[]⟩, .slice none 0 0], .bool false])) (w1.setCells (w.heap.size + 2) 0 (encP (zeroT, .slice none 0 0)))) := HNo.out _ (below_put hb2 (by omega) _)
      have Hq : Hid (Bx (w1.setCells (w.heap.size + 2) 0 (encP (zeroT, .slice none 0 0))) (w.heap.size + 2) zeroT (.slice none 0 0)) := HR2.out.put (zeroT, .slice none 0 0)
      obtain ⟨z0, z1, z2, z3, g0, g1, g2, g3⟩ := HR2.out
      go_wp2_with fail
      refine bodyPost_ret (v := .tuple #[.agg #[.int .i64 0, .int .i64 0, .string ⟨#[]⟩, .slice none 0 0], .bool false]) ?_ rfl HE1.out
      obtain ⟨q0, q1, q2, q3, _, _, _, _⟩ := Hq.out
      simp only [World.setCells, encP, Nat.zero_add, Nat.reduceAdd] at q0 q1 q2 q3
      simp [results, Tryz.results20, go_sem, q0, q1, q2, q3]
    · have j2 : (s.kind == 2) = false := by simpa using hs2
      clear hs2 hne
      go_wp2_with fail
      refine Calls.mono (HI.out _) ?_
      rintro e w1 ⟨rfl, hg1⟩
      have hb2 : Below w.heap.size w w1 := hb1.trans (hg1.mono hb1.size)
      have HR2 : Hid (Bx w1 (w.heap.size + 2) zeroT (.slice none 0 0)) := HR1.out.keeps hg1
      replace t0 := cell_keeps hg1 t0
      clear hg1 hb1 HR1 HI s0 s1 s2 s3 t1 t2 t3 p0 p1 p2 p3
      have HE1 : Hid (PP (.returned (.tuple #[.agg #[.int .i64 0, .int .i64 0, .string ⟨#[]⟩, .slice none 0 0], .bool false])) (w1.setCells (w.heap.size + 2) 0 (encP (zeroT, .slice none 0 0)))) := HNo.out _ (below_put hb2 (by omega) _)
      have Hq : Hid (Bx (w1.setCells (w.heap.size + 2) 0 (encP (zeroT, .slice none 0 0))) (w.heap.size + 2) zeroT (.slice none 0 0)) := HR2.out.put (zeroT, .slice none 0 0)
      obtain ⟨z0, z1, z2, z3, g0, g1, g2, g3⟩ := HR2.out
      go_wp2_with fail
      refine bodyPost_ret (v := .tuple #[.agg #[.int .i64 0, .int .i64 0, .string ⟨#[]⟩, .slice none 0 0], .bool false]) ?_ rfl HE1.out
      obtain ⟨q0, q1, q2, q3, _, _, _, _⟩ := Hq.out
      simp only [World.setCells, encP, Nat.zero_add, Nat.reduceAdd] at q0 q1 q2 q3
      simp [results, Tryz.results20, go_sem, q0, q1, q2, q3]
  · have k4 : (t.kind == 4) = false := by simpa using h4
    clear h4 hk0 hk6 hnE
    go_wp2_with fail
    refine Calls.mono (HI.out _) ?_
    rintro e w1 ⟨rfl, hg1⟩
    have hb2 : Below w.heap.size w w1 := hb1.trans (hg1.mono hb1.size)
    have HR2 : Hid (Bx w1 (w.heap.size + 2) zeroT (.slice none 0 0)) := HR1.out.keeps hg1
    replace t0 := cell_keeps hg1 t0
    clear hg1 hb1 HR1 HI s0 s1 s2 s3 t1 t2 t3 p0 p1 p2 p3
    have HE1 : Hid (PP (.returned (.tuple #[.agg #[.int .i64 0, .int .i64 0, .string ⟨#[]⟩, .slice none 0 0], .bool false])) (w1.setCells (w.heap.size + 2) 0 (encP (zeroT, .slice none 0 0)))) := HNo.out _ (below_put hb2 (by omega) _)
    have Hq : Hid (Bx (w1.setCells (w.heap.size + 2) 0 (encP (zeroT, .slice none 0 0))) (w.heap.size + 2) zeroT (.slice none 0 0)) := HR2.out.put (zeroT, .slice none 0 0)
    obtain ⟨z0, z1, z2, z3, g0, g1, g2, g3⟩ := HR2.out
    go_wp2_with fail
    refine bodyPost_ret (v := .tuple #[.agg #[.int .i64 0, .int .i64 0, .string ⟨#[]⟩, .slice none 0 0], .bool false]) ?_ rfl HE1.out
    obtain ⟨q0, q1, q2, q3, _, _, _, _⟩ := Hq.out
    simp only [World.setCells, encP, Nat.zero_add, Nat.reduceAdd] at q0 q1 q2 q3
    simp [results, Tryz.results20, go_sem, q0, q1, q2, q3]

end Go.Proofs.YtofceccicmlmoaaGreat

