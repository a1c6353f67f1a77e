import Derived.Test.YtlnecfjnffdciaaGreatSplitM
namespace Go.Proofs.YtlnecfjnffdciaaGreat
open Go.RowKit

def CmpC (X : Nat → Prop) (d f : Nat) (by0 : Option Addr) (cmp : PT → PT → Int) (P : PT → Prop) (w : World) : Prop :=
 ∀ V, Below w.heap.size w V → ∀ (x y : PT) (ku vu ky vy : Value), P x → P y → (LiesX X d V x.1.items ku ∧ x.1.text.size ≤ 9223372036854775807) → (LiesX X d V x.2.items vu ∧ x.2.text.size ≤ 9223372036854775807) → (LiesX X d V y.1.items ky ∧ y.1.text.size ≤ 9223372036854775807) → (LiesX X d V y.2.items vy ∧ y.2.text.size ≤ 9223372036854775807) →
  Calls Tryz.prog f #[.agg #[.int .i64 x.1.kind, .int .i64 x.1.num, .string x.1.text, ku, .int .i64 x.2.kind, .int .i64 x.2.num, .string x.2.text, vu], .agg #[.int .i64 y.1.kind, .int .i64 y.1.num, .string y.1.text, ky, .int .i64 y.2.kind, .int .i64 y.2.num, .string y.2.text, vy], .pointer by0] V fun e w' => e = .returned (.int .i64 (cmp x y)) ∧ Below V.heap.size V w'

theorem CmpC.keeps {X : Nat → Prop} {d f : Nat} {by0 : Option Addr} {cmp : PT → PT → Int} {P : PT → Prop} {w w' : World} (h : CmpC X d f by0 cmp P w) (hb : Below w.heap.size w w') : CmpC X d f by0 cmp P w' := fun V hV => h V (hb.trans (hV.mono hb.size))

set_option maxRecDepth 100000 in
set_option maxHeartbeats 8000000 in
theorem union1_core (f : Nat) (eg : ∀ args w, (callFunc f args).run Tryz.prog w = .ok (.enter f args) w) (by0 : Option Addr) (b cb tb : Nat) (pl pr : Option Addr) (x y : PT) (ku vu ky vy : Value) (c : Bool) (S H K : Nat) (R : Int) (w : World) (hcb : w.cell? ⟨cb, 0, none⟩ = some (.func (.func f) #[] #[.pointer by0])) (htb : w.cell? ⟨tb, 0, none⟩ = some (.pointer (some ⟨b, 0, none⟩))) (hn : NCells w b pl pr y ky vy c S H K)
 (hc : ∀ V, Below w.heap.size w V → Calls Tryz.prog f #[.agg #[.int .i64 y.1.kind, .int .i64 y.1.num, .string y.1.text, ky, .int .i64 y.2.kind, .int .i64 y.2.num, .string y.2.text, vy], .agg #[.int .i64 x.1.kind, .int .i64 x.1.num, .string x.1.text, ku, .int .i64 x.2.kind, .int .i64 x.2.num, .string x.2.text, vu], .pointer by0] V fun e w' => e = .returned (.int .i64 R) ∧ Below V.heap.size V w') :
 Calls Tryz.prog 120 #[.agg #[.int .i64 x.1.kind, .int .i64 x.1.num, .string x.1.text, ku, .int .i64 x.2.kind, .int .i64 x.2.num, .string x.2.text, vu], .pointer (some ⟨cb, 0, none⟩), .pointer (some ⟨tb, 0, none⟩)] w fun e w' => e = .returned (.int .i64 R) ∧ Below w.heap.size w w' := by
 have HC : Hid _ := hc
 obtain ⟨c0, c1, c2, c3, c4, c5, c6, c7, c8, c9, _, _, _, _⟩ := hn
 have hb0 : ∀ o, Below w.heap.size w (w.alloc o) := fun o => ((Grew.refl w).alloc o).below
 have h1 := cell_lt hcb
 have h2 := cell_lt htb
 have h3 := cell_lt c0
 simp only at h1 h2 h3
 clear hc
 go_enter Tryz.func120, Tryz.ntmps120
 go_wp2_with fail
 obtain ⟨W0, hW0⟩ : ∃ W0, W0 = w.alloc (.cells #[.int .i64 x.1.kind, .int .i64 x.1.num, .string x.1.text, ku, .int .i64 x.2.kind, .int .i64 x.2.num, .string x.2.text, vu] 69) := ⟨_, rfl⟩
 rw [← hW0]
 have hb1 : Below w.heap.size w W0 := by rw [hW0]; exact hb0 _
 have x0 : W0.cell? ⟨w.heap.size, 0, none⟩ = some (.int .i64 x.1.kind) := by rw [hW0]; simp
 have x1 : W0.cell? ⟨w.heap.size, 1, none⟩ = some (.int .i64 x.1.num) := by rw [hW0]; simp
 have x2 : W0.cell? ⟨w.heap.size, 2, none⟩ = some (.string x.1.text) := by rw [hW0]; simp
 have x3 : W0.cell? ⟨w.heap.size, 3, none⟩ = some (ku) := by rw [hW0]; simp
 have x4 : W0.cell? ⟨w.heap.size, 4, none⟩ = some (.int .i64 x.2.kind) := by rw [hW0]; simp
 have x5 : W0.cell? ⟨w.heap.size, 5, none⟩ = some (.int .i64 x.2.num) := by rw [hW0]; simp
 have x6 : W0.cell? ⟨w.heap.size, 6, none⟩ = some (.string x.2.text) := by rw [hW0]; simp
 have x7 : W0.cell? ⟨w.heap.size, 7, none⟩ = some (vu) := by rw [hW0]; simp
 have c0 := cell_keeps hb1 c0; have c1 := cell_keeps hb1 c1; have c2 := cell_keeps hb1 c2; have c3 := cell_keeps hb1 c3; have c4 := cell_keeps hb1 c4; have c5 := cell_keeps hb1 c5; have c6 := cell_keeps hb1 c6; have c7 := cell_keeps hb1 c7; have c8 := cell_keeps hb1 c8; have c9 := cell_keeps hb1 c9; have hcb := cell_keeps hb1 hcb; have htb := cell_keeps hb1 htb
 clear hW0 hb0
 go_region_held3 (fun w' => w'.cell? ⟨b, 2, none⟩ = some (.int .i64 y.1.kind) ∧ w'.cell? ⟨b, 3, none⟩ = some (.int .i64 y.1.num) ∧ w'.cell? ⟨b, 4, none⟩ = some (.string y.1.text) ∧ w'.cell? ⟨b, 5, none⟩ = some (ky) ∧ w'.cell? ⟨b, 6, none⟩ = some (.int .i64 y.2.kind) ∧ w'.cell? ⟨b, 7, none⟩ = some (.int .i64 y.2.num) ∧ w'.cell? ⟨b, 8, none⟩ = some (.string y.2.text) ∧ w'.cell? ⟨b, 9, none⟩ = some (vy) ∧ w'.cell? ⟨cb, 0, none⟩ = some (.func (.func f) #[] #[.pointer by0]) ∧ w'.cell? ⟨tb, 0, none⟩ = some (.pointer (some ⟨b, 0, none⟩)) ∧ w'.cell? ⟨w.heap.size, 0, none⟩ = some (.int .i64 x.1.kind) ∧ w'.cell? ⟨w.heap.size, 1, none⟩ = some (.int .i64 x.1.num) ∧ w'.cell? ⟨w.heap.size, 2, none⟩ = some (.string x.1.text) ∧ w'.cell? ⟨w.heap.size, 3, none⟩ = some (ku) ∧ w'.cell? ⟨w.heap.size, 4, none⟩ = some (.int .i64 x.2.kind) ∧ w'.cell? ⟨w.heap.size, 5, none⟩ = some (.int .i64 x.2.num) ∧ w'.cell? ⟨w.heap.size, 6, none⟩ = some (.string x.2.text) ∧ w'.cell? ⟨w.heap.size, 7, none⟩ = some (vu)) (go_keep)
  (first | (go_at_fn f; (with_reducible refine Calls.mono (HC.out _ hb1.drew) ?_); rintro e w2 ⟨rfl, hg⟩; have hg2 : Below W0.heap.size W0 w2 := (Below.refl _ _).drew.trans hg; have hb2 : Below w.heap.size w w2 := hb1.trans (hg2.mono hb1.size); have c2 := cell_keeps hg2 c2; have c3 := cell_keeps hg2 c3; have c4 := cell_keeps hg2 c4; have c5 := cell_keeps hg2 c5; have c6 := cell_keeps hg2 c6; have c7 := cell_keeps hg2 c7; have c8 := cell_keeps hg2 c8; have c9 := cell_keeps hg2 c9; have hcb := cell_keeps hg2 hcb; have htb := cell_keeps hg2 htb; have x0 := cell_keeps hg2 x0; have x1 := cell_keeps hg2 x1; have x2 := cell_keeps hg2 x2; have x3 := cell_keeps hg2 x3; have x4 := cell_keeps hg2 x4; have x5 := cell_keeps hg2 x5; have x6 := cell_keeps hg2 x6; have x7 := cell_keeps hg2 x7; clear hg hg2))
 all_goals (first | (go_ret; exact ⟨rfl, hb2⟩) | (go_wp2_with fail; go_ret; exact ⟨rfl, hb2⟩))

set_option maxRecDepth 100000 in
set_option maxHeartbeats 4000000 in
theorem union_nilA (q : Option Addr) (g : Value) (hg : ∃ f l, g = .func f #[] l) (w : World) : Calls Tryz.prog 77 #[.pointer none, .pointer q, g] w fun e w' => e = .returned (.pointer q) ∧ Below w.heap.size w w' := by
 obtain ⟨f, l, rfl⟩ := hg
 have hb : ∀ A B, Below w.heap.size w ((w.alloc A).alloc B) := fun A B => (((Grew.refl w).alloc A).alloc B).below
 go_enter Tryz.func77, Tryz.ntmps77
 go_wp2_with fail
 go_ret
 exact ⟨rfl, hb _ _⟩

set_option maxRecDepth 100000 in
set_option maxHeartbeats 4000000 in
theorem union_nilB (p : Addr) (g : Value) (hg : ∃ f l, g = .func f #[] l) (w : World) : Calls Tryz.prog 77 #[.pointer (some p), .pointer none, g] w fun e w' => e = .returned (.pointer (some p)) ∧ Below w.heap.size w w' := by
 obtain ⟨f, l, rfl⟩ := hg
 have hb : ∀ A B, Below w.heap.size w ((w.alloc A).alloc B) := fun A B => (((Grew.refl w).alloc A).alloc B).below
 go_enter Tryz.func77, Tryz.ntmps77
 go_wp2_with fail
 go_ret
 exact ⟨rfl, hb _ _⟩

set_option maxRecDepth 100000 in
set_option maxHeartbeats 16000000 in
theorem union_node (X : Nat → Prop) (d f : Nat) (by0 : Option Addr) (w : World) (p : Addr) (b : Nat) (pl pr : Option Addr) (y : PT) (ky vy : Value) (c : Bool) (S H K : Nat) (hn : NCells w b pl pr y ky vy c S H K) (a0 b0 T1 T2 T : RT PT)
 (hs : ∀ V, Below w.heap.size w V → V.cell? ⟨w.heap.size + 1, 0, none⟩ = some (.func (.func f) #[] #[.pointer by0]) → V.cell? ⟨w.heap.size, 0, none⟩ = some (.pointer (some ⟨b, 0, none⟩)) → Calls Tryz.prog 114 #[.pointer (some p), .func (.func 120) #[] #[.pointer (some ⟨w.heap.size + 1, 0, none⟩), .pointer (some ⟨w.heap.size, 0, none⟩)]] V (SplitPost X d a0 b0 V))
 (hu1 : ∀ V p1, Below w.heap.size w V → NM X d V a0 p1 → Calls Tryz.prog 77 #[.pointer p1, .pointer pl, .func (.func f) #[] #[.pointer by0]] V (TreePost X d T1 V))
 (hu2 : ∀ V p2, Below w.heap.size w V → NM X d V b0 p2 → Calls Tryz.prog 77 #[.pointer p2, .pointer pr, .func (.func f) #[] #[.pointer by0]] V (TreePost X d T2 V))
 (hj : ∀ V p1 p2, Below w.heap.size w V → NM X d V T1 p1 → NM X d V T2 p2 → Calls Tryz.prog 119 #[.pointer p1, .agg #[.int .i64 y.1.kind, .int .i64 y.1.num, .string y.1.text, ky, .int .i64 y.2.kind, .int .i64 y.2.num, .string y.2.text, vy], .pointer p2] V (TreePost X d T V)) :
 Calls Tryz.prog 77 #[.pointer (some p), .pointer (some ⟨b, 0, none⟩), .func (.func f) #[] #[.pointer by0]] w (TreePost X d T w) := by
 have HS : Hid _ := hs
 have H1 : Hid _ := hu1
 have H2 : Hid _ := hu2
 have HJ : Hid _ := hj
 obtain ⟨c0, c1, c2, c3, c4, c5, c6, c7, c8, c9, _, _, _, _⟩ := hn
 have HB : Hid (∀ A B, Below w.heap.size w ((w.alloc A).alloc B)) := fun A B => (((Grew.refl w).alloc A).alloc B).below
 clear hs hu1 hu2 hj
 go_enter Tryz.func77, Tryz.ntmps77
 go_wp2_with fail
 obtain ⟨W0, hW0⟩ : ∃ W0, W0 = (w.alloc (.cells #[.pointer (some ⟨b, 0, none⟩)] 84)).alloc (.cells #[.func (.func f) #[] #[.pointer by0]] 94) := ⟨_, rfl⟩
 rw [← hW0]
 have hb0 : Below w.heap.size w W0 := by rw [hW0]; exact HB.out _ _
 have t0 : W0.cell? ⟨w.heap.size, 0, none⟩ = some (.pointer (some ⟨b, 0, none⟩)) := by rw [hW0]; exact cell_keeps ((Grew.refl _).alloc _).below (show (w.alloc (.cells #[.pointer (some ⟨b, 0, none⟩)] 84)).cell? ⟨w.heap.size, 0, none⟩ = _ by simp)
 have t1 : W0.cell? ⟨w.heap.size + 1, 0, none⟩ = some (.func (.func f) #[] #[.pointer by0]) := by
  rw [hW0]
  have h9 : ((w.alloc (.cells #[.pointer (some ⟨b, 0, none⟩)] 84)).alloc (.cells #[.func (.func f) #[] #[.pointer by0]] 94)).cell? ⟨(w.alloc (.cells #[.pointer (some ⟨b, 0, none⟩)] 84)).heap.size, 0, none⟩ = some (.func (.func f) #[] #[.pointer by0]) := by simp
  rwa [World.size_alloc] at h9
 clear hW0
 refine (HS.out _ hb0 t1 t0).mono ?_
 rintro e w1 ⟨hg1, p1, p2, rfl, ht1, ht2⟩
 have hb1 : Below w.heap.size w w1 := hb0.trans (hg1.mono hb0.size)
 have t0 := cell_keeps hg1 t0; have t1 := cell_keeps hg1 t1
 have c0 := cell_keeps hb1 c0; have c1 := cell_keeps hb1 c1; have c2 := cell_keeps hb1 c2; have c3 := cell_keeps hb1 c3; have c4 := cell_keeps hb1 c4; have c5 := cell_keeps hb1 c5; have c6 := cell_keeps hb1 c6; have c7 := cell_keeps hb1 c7; have c8 := cell_keeps hb1 c8; have c9 := cell_keeps hb1 c9
 have HT1 : Hid (NM X d w1 a0 p1) := ht1
 have HT2 : Hid (NM X d w1 b0 p2) := ht2
 clear ht1 ht2 hg1 HS hb0
 go_wp2_with fail
 have hbc : Below w1.heap.size w1 w1.drew := (Below.refl _ _).drew
 go_region_held3 (fun w' => w'.cell? ⟨b, 0, none⟩ = some (.pointer pl) ∧ w'.cell? ⟨b, 1, none⟩ = some (.pointer pr) ∧ w'.cell? ⟨b, 2, none⟩ = some (.int .i64 y.1.kind) ∧ w'.cell? ⟨b, 3, none⟩ = some (.int .i64 y.1.num) ∧ w'.cell? ⟨b, 4, none⟩ = some (.string y.1.text) ∧ w'.cell? ⟨b, 5, none⟩ = some (ky) ∧ w'.cell? ⟨b, 6, none⟩ = some (.int .i64 y.2.kind) ∧ w'.cell? ⟨b, 7, none⟩ = some (.int .i64 y.2.num) ∧ w'.cell? ⟨b, 8, none⟩ = some (.string y.2.text) ∧ w'.cell? ⟨b, 9, none⟩ = some (vy) ∧ w'.cell? ⟨w.heap.size, 0, none⟩ = some (.pointer (some ⟨b, 0, none⟩)) ∧ w'.cell? ⟨w.heap.size + 1, 0, none⟩ = some (.func (.func f) #[] #[.pointer by0])) (go_keep)
  (first
   | (go_at_call 119; (with_reducible refine Calls.mono (HJ.out _ _ _ (hb1.trans (hbc.mono hb1.size)) HP.out HQ.out) ?_); rintro e w7 ⟨hg, z7, rfl, ht⟩; have HE : Hid (TreePost X d T w (.returned (.pointer z7)) w7) := ⟨(hb1.trans (hbc.mono hb1.size)).trans (hg.mono (hb1.trans (hbc.mono hb1.size)).size), z7, rfl, ht⟩; have c0 := cell_keeps hg c0; have c1 := cell_keeps hg c1; have c2 := cell_keeps hg c2; have c3 := cell_keeps hg c3; have c4 := cell_keeps hg c4; have c5 := cell_keeps hg c5; have c6 := cell_keeps hg c6; have c7 := cell_keeps hg c7; have c8 := cell_keeps hg c8; have c9 := cell_keeps hg c9; have t0 := cell_keeps hg t0; have t1 := cell_keeps hg t1; clear hg ht)
   | (go_at_call 77; (with_reducible refine Calls.mono (H1.out _ _ (hb1.trans (hbc.mono hb1.size)) (HT1.out.keeps hbc)) ?_); rintro e w5 ⟨hg, z5, rfl, ht⟩; have HP : Hid (NM X d w5 T1 z5) := ht; (try have HQ : Hid (NM X d w5 T2 _) := HQ.out.keeps hg); replace hbc := hbc.trans (hg.mono hbc.size); have c0 := cell_keeps hg c0; have c1 := cell_keeps hg c1; have c2 := cell_keeps hg c2; have c3 := cell_keeps hg c3; have c4 := cell_keeps hg c4; have c5 := cell_keeps hg c5; have c6 := cell_keeps hg c6; have c7 := cell_keeps hg c7; have c8 := cell_keeps hg c8; have c9 := cell_keeps hg c9; have t0 := cell_keeps hg t0; have t1 := cell_keeps hg t1; clear hg ht)
   | (go_at_call 77; (with_reducible refine Calls.mono (H2.out _ _ (hb1.trans (hbc.mono hb1.size)) (HT2.out.keeps hbc)) ?_); rintro e w6 ⟨hg, z6, rfl, ht⟩; have HQ : Hid (NM X d w6 T2 z6) := ht; (try have HP : Hid (NM X d w6 T1 _) := HP.out.keeps hg); replace hbc := hbc.trans (hg.mono hbc.size); have c0 := cell_keeps hg c0; have c1 := cell_keeps hg c1; have c2 := cell_keeps hg c2; have c3 := cell_keeps hg c3; have c4 := cell_keeps hg c4; have c5 := cell_keeps hg c5; have c6 := cell_keeps hg c6; have c7 := cell_keeps hg c7; have c8 := cell_keeps hg c8; have c9 := cell_keeps hg c9; have t0 := cell_keeps hg t0; have t1 := cell_keeps hg t1; clear hg ht))
 all_goals (first | (go_ret; exact HE.out) | (go_wp2_with fail; go_ret; exact HE.out))

theorem eg_union1 : ∀ args w, (callFunc 120 args).run Tryz.prog w = .ok (.enter 120 args) w := enters_of Tryz.func120 (by kernel_rfl) rfl

theorem union_sizes {α : Type} (cmp : α → α → Int) : ∀ (b a : RT α), (RT.union cmp b a).size ≤ b.size + a.size
 | .nil, a => by show a.size ≤ _; simp [RT.size]
 | .node c l x r, .nil => by show (RT.node c l x r).size ≤ _; simp [RT.size]
 | .node c l x r, .node c2 l2 x2 r2 => by
  have h1 := union_sizes cmp l (RT.split (cmp x) (.node c2 l2 x2 r2)).1
  have h2 := union_sizes cmp r (RT.split (cmp x) (.node c2 l2 x2 r2)).2
  have h3 := split_sizes (cmp x) (.node c2 l2 x2 r2)
  show (RT.join _ x _).size ≤ (l.size + 1 + r.size) + _
  rw [join_size]
  omega

theorem split_mem {α : Type} (g : α → Int) : ∀ (t : RT α), (∀ y ∈ (RT.split g t).1.items, y ∈ t.items) ∧ (∀ y ∈ (RT.split g t).2.items, y ∈ t.items)
 | .nil => ⟨fun _ h => h, fun _ h => h⟩
 | .node c l x r => by
  obtain ⟨h1, h2⟩ := split_mem g l
  obtain ⟨h3, h4⟩ := split_mem g r
  have hi : ∀ y, y ∈ (RT.node c l x r).items ↔ y ∈ l.items ∨ y = x ∨ y ∈ r.items := fun y => by simp [RT.items]
  unfold RT.split
  split
  ·refine ⟨fun y hy => (hi y).2 (.inl (h1 y hy)), fun y hy => (hi y).2 ?_⟩
   have hy' : y ∈ (RT.join (RT.split g l).2 x r).items := hy
   rw [RT.join_items] at hy'
   rcases List.mem_append.1 hy' with h | h
   ·exact .inl (h2 y h)
   ·rcases List.mem_cons.1 h with h | h
    ·exact .inr (.inl h)
    ·exact .inr (.inr h)
  ·split
   ·refine ⟨fun y hy => (hi y).2 ?_, fun y hy => (hi y).2 (.inr (.inr (h4 y hy)))⟩
    have hy' : y ∈ (RT.join l x (RT.split g r).1).items := hy
    rw [RT.join_items] at hy'
    rcases List.mem_append.1 hy' with h | h
    ·exact .inl h
    ·rcases List.mem_cons.1 h with h | h
     ·exact .inr (.inl h)
     ·exact .inr (.inr (h3 y h))
   ·exact ⟨fun y hy => (hi y).2 (.inl hy), fun y hy => (hi y).2 (.inr (.inr hy))⟩

theorem union_14 (X : Nat → Prop) (d f : Nat) (eg : ∀ args w, (callFunc f args).run Tryz.prog w = .ok (.enter f args) w) (by0 : Option Addr) (cmp : PT → PT → Int) (P : PT → Prop) : ∀ (tb ta : RT PT) (pb pa : Option Addr) (w : World), CmpC X d f by0 cmp P w → NM X d w tb pb → NM X d w ta pa → RT.Well tb → RT.Well ta → (∀ x ∈ tb.items, P x) → (∀ x ∈ ta.items, P x) → tb.size + ta.size < 4611686018427387904 →
 Calls Tryz.prog 77 #[.pointer pa, .pointer pb, .func (.func f) #[] #[.pointer by0]] w (TreePost X d (RT.union cmp tb ta) w)
 | .nil, ta, pb, pa, w, hc, hb, ha, wb, wa, qb, qa, hz => by
  have hpb : pb = none := hb
  subst hpb
  cases pa with
  | none =>
   refine Calls.mono (union_nilA none _ ⟨_, _, rfl⟩ w) ?_
   rintro e w' ⟨rfl, hg⟩
   exact ⟨hg, none, rfl, ha.keeps hg⟩
  | some p =>
   refine Calls.mono (union_nilB p _ ⟨_, _, rfl⟩ w) ?_
   rintro e w' ⟨rfl, hg⟩
   exact ⟨hg, some p, rfl, ha.keeps hg⟩
 | .node c l y r, .nil, pb, pa, w, hc, hb, ha, wb, wa, qb, qa, hz => by
  have hpa : pa = none := ha
  subst hpa
  refine Calls.mono (union_nilA pb _ ⟨_, _, rfl⟩ w) ?_
  rintro e w' ⟨rfl, hg⟩
  exact ⟨hg, pb, rfl, hb.keeps hg⟩
 | .node c l y r, .node c2 l2 y2 r2, pb, pa, w, hc, hb, ha, wb, wa, qb, qa, hz => by
  obtain ⟨b, pl, pr, ky, vy, rfl, hn, hk, hv, hl, hr⟩ := hb
  obtain ⟨p, hp⟩ : ∃ p, pa = some p := by
   obtain ⟨b2, _, _, _, _, e, _⟩ := ha
   exact ⟨_, e⟩
  subst hp
  have hyP : P y := qb y (by simp [RT.items])
  have hsz := split_sizes (cmp y) (.node c2 l2 y2 r2)
  have hsw := RT.split_well (cmp y) _ wa
  have hsm := split_mem (cmp y) (.node c2 l2 y2 r2)
  have hzz : (RT.node c l y r).size = l.size + 1 + r.size := rfl
  have hu1 := union_sizes cmp l (RT.split (cmp y) (.node c2 l2 y2 r2)).1
  have hu2 := union_sizes cmp r (RT.split (cmp y) (.node c2 l2 y2 r2)).2
  refine union_node X d f by0 w p b pl pr y ky vy c _ _ _ hn (RT.split (cmp y) (.node c2 l2 y2 r2)).1 (RT.split (cmp y) (.node c2 l2 y2 r2)).2 (RT.union cmp l (RT.split (cmp y) (.node c2 l2 y2 r2)).1) (RT.union cmp r (RT.split (cmp y) (.node c2 l2 y2 r2)).2) _ (fun V hV h1 h0 => ?_) (fun V p1 hV h1 => ?_) (fun V p2 hV h2 => ?_) (fun V p1 p2 hV h1 h2 => ?_)
  ·refine split_14 X d 120 _ _ (cmp y) P eg_union1 _ (some p) V ?_ (ha.keeps hV) wa qa (by omega)
   intro V2 hV2 x ku vu hx hkx hvx
   have hVV : Below w.heap.size w V2 := hV.trans (hV2.mono hV.size)
   refine union1_core f eg by0 b _ _ pl pr x y ku vu ky vy c _ _ _ _ V2 (cell_keeps hV2 h1) (cell_keeps hV2 h0) (hn.keeps hVV) fun V3 hV3 => ?_
   have h9 : Below w.heap.size w V3 := hVV.trans (hV3.mono hVV.size)
   exact hc V3 h9 y x ky vy ku vu hyP hx ⟨LiesX.keeps h9 hk.1, hk.2⟩ ⟨LiesX.keeps h9 hv.1, hv.2⟩ ⟨LiesX.keeps hV3 hkx.1, hkx.2⟩ ⟨LiesX.keeps hV3 hvx.1, hvx.2⟩
  ·exact union_14 X d f eg by0 cmp P l _ pl p1 V (hc.keeps hV) (hl.keeps hV) h1 wb.left hsw.1 (fun x hx => qb x (by simp [RT.items, hx])) (fun x hx => qa x (hsm.1 x hx)) (by omega)
  ·exact union_14 X d f eg by0 cmp P r _ pr p2 V (hc.keeps hV) (hr.keeps hV) h2 wb.right hsw.2 (fun x hx => qb x (by simp [RT.items, hx])) (fun x hx => qa x (hsm.2 x hx)) (by omega)
  ·exact join_14 X d V _ _ y p1 p2 ky vy h1 h2 (RT.union_well cmp l _ wb.left hsw.1) (RT.union_well cmp r _ wb.right hsw.2) ⟨LiesX.keeps hV hk.1, hk.2⟩ ⟨LiesX.keeps hV hv.1, hv.2⟩ (by omega)

end Go.Proofs.YtlnecfjnffdciaaGreat

