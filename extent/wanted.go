package extent

import "apograph/api"

// wanted is a span for which a row is looked for. It may be any two numbers until a row has it whole: its end may be beyond the greatest number.
type wanted api.Span

// fits tells whether a row is long enough.
func (w wanted) fits(row api.Span) bool {
	return w.Pages >= 1 && w.Pages <= row.Pages
}

// within tells whether a row has the span whole. It takes lengths away instead of adding them up, which can't wrap round.
func (w wanted) within(row api.Span) bool {
	return w.Pages >= 1 && w.Start >= row.Start && w.Pages <= row.Pages-(w.Start-row.Start)
}

// meets tells whether a page is both in the row and in the span, which is one of pages that there are.
func (w wanted) meets(row api.Span) bool {
	return w.Start < end(row) && row.Start < end(api.Span(w))
}

// ahead tells whether the span begins ahead of the row.
func (w wanted) ahead(row api.Span) bool {
	return w.Start < row.Start
}

// end is the page behind a span.
func end(s api.Span) int {
	return s.Start + s.Pages
}

// between is the pages from one up to another, which is left out.
func between(from, to int) api.Span {
	return api.Span{Start: from, Pages: to - from}
}
