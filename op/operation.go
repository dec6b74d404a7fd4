package op

import "lapidary/api"

// operation is an operation under way. Its methods tell where its numbers are, so that a kind can name them.
type operation struct{ api.Op }

func (o *operation) a() *int { return &o.A }

func (o *operation) b() *int { return &o.B }

func (o *operation) c() *int { return &o.C }

func (o *operation) field() *int { return &o.Field }

func (o *operation) shape() *int { return &o.Shape }

func (o *operation) x() *int64 { return &o.X }

func (o *operation) y() *int64 { return &o.Y }
